/-
  Promise V1: the walks of what is checked of each person.
  Promise V1: the walk of checkPersons.
  Promise V1: the walks of what is checked of the run, of slips and of the journal.
  Promise V1: the walks of what is checked of slips and of the journal.
  Promise V1: the walk of Check.
-/
import Derived.Test.YtkalfdjmklakdaaGreatDoorKR
import Derived.Test.YtkalfdjmklakdaaGreatDoorKK
import Derived.Test.YtkalfdjmklakdaaGreatDoorKN
import Derived.Test.YtkalfdjmklakdaaGreatDoorKO
import Derived.Test.YtkalfdjmklakdaaGreatDoorKP
import Derived.Test.YtkalfdjmklakdaaGreatDoorKQ
import Derived.Laws.EntriesVeiled
namespace Go.Proofs.YtkalfdjmklakdaaGreatDoor
open Go.RowKit
structure Vs (w : World) : Prop where
 shp : Shp w
 tab : Cal.Tab w
theorem Vs.below {w w' : World} (h : Vs w) (hb : Below w.heap.size w w') : Vs w' := ⟨h.shp.below hb, h.tab.below hb⟩
theorem pay1 (acc name : ByteArray) : Cal.Bnk.prE 0 [⟨acc, name, 1, 0⟩] 1 = ifE (!(Cal.Bnk.accB acc && Cal.Bnk.nameB name)) 1 := by
 have hw : Cal.Bnk.wrongP ⟨acc, name, 1, 0⟩ = ifE (!(Cal.Bnk.accB acc && Cal.Bnk.nameB name)) 1 := by
  unfold Cal.Bnk.wrongP
  cases (Cal.Bnk.accB acc && Cal.Bnk.nameB name)
  ·rfl
  ·rw [if_pos rfl, if_pos (show Cal.Bnk.rngB ⟨acc, name, 1, 0⟩ = true from by simp [Cal.Bnk.rngB])]; rfl
 have h1 : Cal.Bnk.firstP [⟨acc, name, 1, 0⟩] 1 = ifE (!(Cal.Bnk.accB acc && Cal.Bnk.nameB name)) 1 := hw
 unfold Cal.Bnk.prE Cal.Bnk.payE
 rw [if_pos (by decide), if_neg (by decide), h1]
 cases (Cal.Bnk.accB acc && Cal.Bnk.nameB name)
 ·rfl
 ·rfl
def EBox (w : World) (b : Nat) (r : Ps) (a : Option Addr) (c : Nat) : Prop := b < w.heap.size ∧ w.cell? ⟨b, 0, none⟩ = some (.int .i64 r.num) ∧ w.cell? ⟨b, 1, none⟩ = some (.string r.name) ∧ w.cell? ⟨b, 2, none⟩ = some (.string r.acc) ∧ w.cell? ⟨b, 3, none⟩ = some (.slice a r.ins.length c)
theorem EBox.below {B : Nat} {w w' : World} {b : Nat} {r : Ps} {a : Option Addr} {c : Nat} (h : EBox w b r a c) (hb : Below B w w') (hB : b < B) : EBox w' b r a c :=
 ⟨Nat.lt_of_lt_of_le h.1 hb.size, (hb.cell (p := ⟨b, 0, none⟩) hB).trans h.2.1, (hb.cell (p := ⟨b, 1, none⟩) hB).trans h.2.2.1, (hb.cell (p := ⟨b, 2, none⟩) hB).trans h.2.2.2.1, (hb.cell (p := ⟨b, 3, none⟩) hB).trans h.2.2.2.2⟩
theorem EBox.made (w : World) (r : Ps) (a : Option Addr) (c : Nat) : EBox (w.alloc (.cells #[.int .i64 r.num, .string r.name, .string r.acc, .slice a r.ins.length c] 57)) w.heap.size r a c := by
 refine ⟨?_, ?_, ?_, ?_, ?_⟩ <;> simp
set_option maxRecDepth 100000 in
set_option maxHeartbeats 1000000 in
theorem checkPayable_any (r : Ps) (a : Option Addr) (c : Nat) (w : World) (hv : Vs w) (h1 : r.name.size ≤ maxLen) (h2 : r.acc.size ≤ maxLen) :
 Calls Tryz.prog 75 #[.agg #[.int .i64 r.num, .string r.name, .string r.acc, .slice a r.ins.length c]] w fun e w' => e = .returned (.int .i64 (payW r)) ∧ Below w.heap.size w w' := by
 have HB0 := Lib.hid (kbelow_box w (.cells #[.int .i64 r.num, .string r.name, .string r.acc, .slice a r.ins.length c] 57))
 have HB1 := Lib.hid (HB0.out.alloc HB0.out.size (.cells #[.string r.acc, .string r.name, .int .i64 1, .int .i64 0] 166))
 have HP := Lib.hid (Cal.Bnk.Print_any 0 (some ⟨w.heap.size + 1, 0, none⟩) 1 1 [⟨r.acc, r.name, 1, 0⟩] _ (hv.tab.below HB1.out) (.inr ⟨w.heap.size + 1, 0, rfl, by simp, fun j hj => by
  obtain rfl : j = 0 := by simpa using hj
  exact ⟨by simp [Cal.Bnk.pnth], by simp [Cal.Bnk.pnth], by simp [Cal.Bnk.pnth], by simp [Cal.Bnk.pnth]⟩⟩) (fun j hj => by
  obtain rfl : j = 0 := by omega
  unfold maxLen at h1 h2
  exact ⟨⟨by simp [Cal.Bnk.pnth]; omega, by simp [Cal.Bnk.pnth]; omega⟩, show (Lit.int .i64 1).wf = true by decide, show (Lit.int .i64 0).wf = true by decide⟩) rfl (by omega))
 rw [pay1, show ifE (!(Cal.Bnk.accB r.acc && Cal.Bnk.nameB r.name)) 1 = payW r from rfl] at HP
 clear hv h1 h2
 go_enter Tryz.func75, Tryz.ntmps75
 go_wp2_with fail
 refine HP.out.mono ?_
 rintro e w1 ⟨rfl, hb1⟩
 have HB2 := Lib.hid (HB1.out.trans (hb1.mono HB1.out.size))
 clear hb1
 go_wp2_with fail
 go_ret
 exact ⟨rfl, HB2.out⟩
set_option maxRecDepth 100000 in
set_option maxHeartbeats 2000000 in
theorem plan_any (c : Co) (s : Ly) (r : Ps) (a : Option Addr) (k : Nat) (w : World) :
 Calls Tryz.prog 78 #[.agg (coA c s), .agg #[.int .i64 r.num, .string r.name, .string r.acc, .slice a r.ins.length k]] w fun e w' => e = .returned (.agg #[.int .i64 c.K, .int .i64 c.A, .int .i64 c.L, .slice s.al s.nl s.cl, .slice s.at' s.nt s.ct, .slice a r.ins.length k]) ∧ Below w.heap.size w w' := by
 obtain ⟨n, hn⟩ : ∃ n, r.ins.length = n := ⟨_, rfl⟩
 have HB0 := Lib.hid (((kbelow_box w (.cells (coA c s) 33)).alloc (by simp) (.cells #[.int .i64 r.num, .string r.name, .string r.acc, .slice a n k] 57)).alloc (by simp; omega) (.cells #[.int .i64 c.K, .int .i64 c.A, .int .i64 c.L, .slice s.al s.nl s.cl, .slice s.at' s.nt s.ct, .slice a n k] 78))
 rw [hn]
 clear hn
 have hx := (((CBox.made w c s).below (kbelow_box _ (.cells #[.int .i64 r.num, .string r.name, .string r.acc, .slice a n k] 57)) (by simp)).below (kbelow_box _ (.cells #[.int .i64 0, .int .i64 0, .int .i64 0, .slice none 0 0, .slice none 0 0, .slice none 0 0] 78)) (by simp; omega)).cells
 obtain ⟨_, k1, k2, k3, k4, k5, _⟩ := hx
 go_enter Tryz.func78, Tryz.ntmps78
 go_wp2_with fail
 refine bodyPost_ret (v := .agg #[.int .i64 c.K, .int .i64 c.A, .int .i64 c.L, .slice s.al s.nl s.cl, .slice s.at' s.nt s.ct, .slice a n k]) (by simp [results, Tryz.results78, go_sem] <;> rfl) rfl ⟨rfl, HB0.out⟩
set_option maxRecDepth 100000 in
set_option maxHeartbeats 1000000 in
theorem pers1 (p : Nat) (r : Ps) (a : Option Addr) (k : Nat) (w : World) (hp : EBox w p r a k) :
 Calls Tryz.prog 72 #[.pointer (some ⟨p, 0, none⟩)] w fun e w' => e = .returned (.int .i64 (ifE (!Rn.perB r.num) 3)) ∧ Below w.heap.size w w' := by
 obtain ⟨h0, h1, h2, h3, h4⟩ := hp
 go_enter Tryz.func72, Tryz.ntmps72
 go_wp2_with (first | (go_at_call 73; refine (Rn.isPerson_any _ _).mono ?_; rintro e w' ⟨rfl, h'⟩; subst w') | (go_at_call 21; refine (when_any _ _ _).mono ?_; rintro e w' ⟨rfl, h'⟩; subst w'))
 go_ret
 exact ⟨rfl, Below.refl _ _⟩
set_option maxRecDepth 100000 in
set_option maxHeartbeats 1000000 in
theorem pers2 (p : Nat) (r : Ps) (a : Option Addr) (k : Nat) (w : World) (hv : Vs w) (hp : EBox w p r a k) (h1 : r.name.size ≤ maxLen) (h2 : r.acc.size ≤ maxLen) :
 Calls Tryz.prog 74 #[.pointer (some ⟨p, 0, none⟩)] w fun e w' => e = .returned (.int .i64 (payW r)) ∧ Below w.heap.size w w' := by
 have HP := Lib.hid (checkPayable_any r a k w hv h1 h2)
 clear hv h1 h2
 obtain ⟨h0, h1, h2, h3, h4⟩ := hp
 go_enter Tryz.func74, Tryz.ntmps74
 go_wp2_with fail
 refine HP.out.mono ?_
 rintro e w1 ⟨rfl, hb1⟩
 have HB1 := Lib.hid hb1
 clear hb1
 go_wp2_with fail
 go_ret
 exact ⟨rfl, HB1.out⟩
set_option maxRecDepth 100000 in
set_option maxHeartbeats 2000000 in
theorem pers3 (F : Fs) (b p : Nat) (c : Co) (s : Ly) (r : Ps) (a : Option Addr) (k : Nat) (w : World) (hv : Vs w) (hc : CameC w s c) (hb : CBox w b c s) (hp : EBox w p r a k) (hi : CameI w a r.ins) (hm : r.ins.length ≤ maxLen) :
 Calls Tryz.prog 76 #[.pointer (some ⟨b, 0, none⟩), .pointer (some ⟨p, 0, none⟩)] w fun e w' => e = .returned (.int .i64 (F.pe (plOf c r))) ∧ Below w.heap.size w w' := by
 have HC : Hid (∀ w', Below w.heap.size w w' → Calls Tryz.prog 77 #[.agg #[.int .i64 c.K, .int .i64 c.A, .int .i64 c.L, .slice s.al s.nl s.cl, .slice s.at' s.nt s.ct, .slice a r.ins.length k]] w' fun e w'' => e = .returned (.int .i64 (F.pe (plOf c r))) ∧ Below w'.heap.size w' w'') := fun w' hb => by
  refine (Check_plan (plOf c r) s.al s.at' a s.nl s.nt r.ins.length s.cl s.ct k w' (hv.shp.below hb) ((hc.below hb).plan (hi.below hb) hm) hc.nl hc.nt rfl).mono ?_
  rintro e w'' ⟨x, rfl, hx, hb2⟩
  rw [F.hp _ _ hx]
  exact ⟨rfl, hb2⟩
 clear hv hc hi hm
 have HQ := Lib.hid (plan_any c s r a k w)
 have HX := Lib.hid hb
 obtain ⟨h0, h1, h2, h3, h4⟩ := hp
 clear hb
 generalize r.ins.length = n at *
 go_enter Tryz.func76, Tryz.ntmps76
 go_wp2_with (refine wpList_load_row rfl 33 (.tmp 0) rfl b rfl 33 (coA c s) (0, 0) _ HX.out Tryz.underlying33 rfl (coInfo c s) ?_)
 refine HQ.out.mono ?_
 rintro e w1 ⟨rfl, hb1⟩
 have HB1 := Lib.hid hb1
 clear hb1
 go_wp2_with fail
 refine (HC.out _ HB1.out).mono ?_
 rintro e w2 ⟨rfl, hb2⟩
 have HB2 := Lib.hid (HB1.out.trans (hb2.mono HB1.out.size))
 clear hb2
 go_wp2_with fail
 go_ret
 exact ⟨rfl, HB2.out⟩
end Go.Proofs.YtkalfdjmklakdaaGreatDoor
namespace Go.Proofs.YtkalfdjmklakdaaGreatDoor
open Go.RowKit
theorem upPs_at {l : List Ps} {n j : Nat} (hj : j + 1 < n) (h : (psth l (j + 1)).num ≤ (psth l j).num) : upPs l n = false := by
 unfold upPs
 rw [anyN_yes (j := j) (by omega) (decide_eq_true h)]; rfl
theorem upPs_all {l : List Ps} {n : Nat} (h : ∀ j, j + 1 < n → (psth l j).num < (psth l (j + 1)).num) : upPs l n = true := by
 unfold upPs
 rw [anyN_no fun j hj => decide_eq_false (by have := h j (by omega); omega)]; rfl
def ownF (a b c : FuncId) (j : Nat) : FuncId := [a, b, c].getD j 0
def ownC (a b c : Array Value) (j : Nat) : Array Value := [a, b, c].getD j #[]
set_option maxRecDepth 100000 in
set_option maxHeartbeats 1000000 in
theorem one_any (F : Fs) (b p : Nat) (c : Co) (s : Ly) (r : Ps) (a : Option Addr) (k g : Nat) (w : World) (hv : Vs w) (hc : CameC w s c) (hb : CBox w b c s) (hp : EBox w p r a k) (hi : CameI w a r.ins) (hm : r.ins.length ≤ maxLen) (h1 : r.name.size ≤ maxLen) (h2 : r.acc.size ≤ maxLen)
 (g0 : w.cell? ⟨g, 0, none⟩ = some (.func (.func 72) #[] #[.pointer (some ⟨p, 0, none⟩)])) (g1 : w.cell? ⟨g, 1, none⟩ = some (.func (.func 74) #[] #[.pointer (some ⟨p, 0, none⟩)])) (g2 : w.cell? ⟨g, 2, none⟩ = some (.func (.func 76) #[] #[.pointer (some ⟨b, 0, none⟩), .pointer (some ⟨p, 0, none⟩)])) :
 Calls Tryz.prog 19 #[.slice (some ⟨g, 0, none⟩) 3 3] w fun e w' => e = .returned (.int .i64 (fstL (oneL F c r))) ∧ Below w.heap.size w w' := by
 refine first_any g 3 3 (ownF 72 74 76) (ownC #[.pointer (some ⟨p, 0, none⟩)] #[.pointer (some ⟨p, 0, none⟩)] #[.pointer (some ⟨b, 0, none⟩), .pointer (some ⟨p, 0, none⟩)]) (fun j => (oneL F c r).getD j 0) w (by omega) (fun j hj => ?_) (fun j hj w => ?_) (fun j hj _ w' hw => ?_)
 ·match j, hj with
  | 0, _ => exact g0
  | 1, _ => exact g1
  | 2, _ => exact g2
 ·match j, hj with
  | 0, _ => simp [ownF, ownC, go_sem]
  | 1, _ => simp [ownF, ownC, go_sem]
  | 2, _ => simp [ownF, ownC, go_sem]
 ·match j, hj with
  | 0, _ => exact pers1 p r a k w' (hp.below hw hp.1)
  | 1, _ => exact pers2 p r a k w' (hv.below hw) (hp.below hw hp.1) h1 h2
  | 2, _ => exact pers3 F b p c s r a k w' (hv.below hw) (hc.below hw) (hb.below hw hb.lt) (hp.below hw hp.1) (hi.below hw) hm
set_option maxRecDepth 100000 in
set_option maxHeartbeats 4000000 in
theorem checkPersons_any (F : Fs) (c : Co) (s : Ly) (w : World) (hv : Vs w) (hc : CameC w s c) :
 Calls Tryz.prog 30 #[.agg (coA c s)] w fun e w' => e = .returned (.int .i64 (persE F c)) ∧ Below w.heap.size w w' := by
 obtain ⟨n, hn⟩ : ∃ n, s.np = n := ⟨_, rfl⟩
 have hm' : n ≤ 9223372036854775807 := by have := hc.mp; rw [hn] at this; unfold maxLen at this; omega
 have HN : Hid (c.prs.length = n) := Lib.hid (hc.np.trans hn)
 have HO := Lib.hid (fun h0 => hc.p.open (n := n) HN.out h0)
 have HC := Lib.hid hc
 have HV := Lib.hid hv
 have HB0 := Lib.hid (kbelow_box w (.cells (coA c s) 33))
 have HX0 := Lib.hid (CBox.made w c s)
 have HE : Hid (persE F c = if firstE (fun j => fstL (oneL F c (psth c.prs j))) n = 0 then ifE (!upPs c.prs n) 6 else firstE (fun j => fstL (oneL F c (psth c.prs j))) n) := by unfold Hid persE; rw [HN.out]
 clear hv hc
 obtain ⟨k0, k1, k2, k3, k4, k5, k6, k7, k8, k9, k10, k11, k12, k13, k14, k15, k16, k17, k18⟩ := HX0.out.cells
 rw [hn] at k6
 go_enter Tryz.func30, Tryz.ntmps30
 go_wp2_with fail
 clear k0 k1 k2 k3 k4 k5 k6 k7 k8 k9 k10 k11 k12 k13 k14 k15 k16 k17 k18
 go_loopw [10] (fun i wr => ∃ k : Nat, k ≤ n ∧ i = .int .i64 k ∧ firstE (fun j => fstL (oneL F c (psth c.prs j))) k = 0 ∧ CBox wr w.heap.size c s ∧ Below w.heap.size w wr) (fun i _ => n - (intOf i).toNat)
 case atStart => exact ⟨0, Nat.zero_le _, rfl, rfl, HX0.out, HB0.out⟩
 case round =>
  clear HX0 HB0
  obtain ⟨k, hk, rfl, hz, hx, hb⟩ := hrel
  have HZ := Lib.hid hz
  have HX := Lib.hid hx
  have HB := Lib.hid hb
  clear hz hx hb
  by_cases hlt : k < n
  ·have hlt' : (k : Int) < (n : Int) := by omega
   obtain ⟨b, off, hap, hcell⟩ := HO.out (by omega)
   obtain ⟨ax, cx, x0, x1, x2, x3, hi, m1, m2, m3⟩ := hcell wr HB.out k hlt
   clear hcell
   obtain ⟨r, hr⟩ : ∃ r, psth c.prs k = r := ⟨_, rfl⟩
   have HS : Hid (firstE (fun j => fstL (oneL F c (psth c.prs j))) (k + 1) = fstL (oneL F c r)) := by unfold Hid; rw [firstE_ok HZ.out, hr]
   have HER : Hid (fstL (oneL F c r) ≠ 0 → firstE (fun j => fstL (oneL F c (psth c.prs j))) n = fstL (oneL F c r)) := fun h => by rw [firstE_err (f := fun j => fstL (oneL F c (psth c.prs j))) hlt HZ.out (by rw [hr]; exact h), hr]
   rw [hr] at x0 x1 x2 x3 hi m1 m2 m3
   clear hr
   have hr0 := kbelow_box wr (.cells #[.int .i64 r.num, .string r.name, .string r.acc, .slice ax r.ins.length cx] 57)
   have hrr := hr0.alloc (o := .cells #[.func (.func 72) #[] #[.pointer (some ⟨wr.heap.size, 0, none⟩)], .func (.func 74) #[] #[.pointer (some ⟨wr.heap.size, 0, none⟩)], .func (.func 76) #[] #[.pointer (some ⟨w.heap.size, 0, none⟩), .pointer (some ⟨wr.heap.size, 0, none⟩)]] 66) hr0.size
   have HBR := Lib.hid (HB.out.trans (hrr.mono HB.out.size))
   have HXR := Lib.hid (HX.out.below hrr HX.out.lt)
   have hq := (EBox.made wr r ax cx).below (kbelow_box _ (.cells #[.func (.func 72) #[] #[.pointer (some ⟨wr.heap.size, 0, none⟩)], .func (.func 74) #[] #[.pointer (some ⟨wr.heap.size, 0, none⟩)], .func (.func 76) #[] #[.pointer (some ⟨w.heap.size, 0, none⟩), .pointer (some ⟨wr.heap.size, 0, none⟩)]] 66)) (by simp)
   have HK := Lib.hid (one_any F w.heap.size wr.heap.size c s r ax cx (wr.heap.size + 1) _ (HV.out.below HBR.out) (HC.out.below HBR.out) HXR.out hq (hi.below hrr) m3 m1 m2 (by simp) (by simp) (by simp))
   clear hr0 hrr hq hi m1 m2 m3
   obtain ⟨y, hy⟩ : ∃ y, fstL (oneL F c r) = y := ⟨_, rfl⟩
   rw [hy] at HK HS HER
   clear hy
   subst hn
   generalize r.ins.length = ni at *
   rw [hap]
   by_cases hy0 : y = 0
   ·subst hy0
    go_wp2_with fail
    refine HK.out.mono ?_
    rintro e w1 ⟨rfl, hb1⟩
    have HBN := Lib.hid (HBR.out.trans (hb1.mono HBR.out.size))
    have HXN := Lib.hid (HXR.out.below hb1 HXR.out.lt)
    clear hb1
    go_wp2_with fail
    go_roundw
    case rel => exact ⟨k + 1, by omega, by go_num, HS.out, HXN.out, HBN.out⟩
    case measure => simp [intOf]; omega
   ·have hy1 : (y != 0) = true := by simp [hy0]
    have HR : Hid (persE F c = y) := by unfold Hid; rw [HE.out, HER.out hy0, if_neg hy0]
    clear hy0
    go_wp2_with fail
    refine HK.out.mono ?_
    rintro e w1 ⟨rfl, hb1⟩
    have HBN := Lib.hid (HBR.out.trans (hb1.mono HBR.out.size))
    have HXN := Lib.hid (HXR.out.below hb1 HXR.out.lt)
    clear hb1
    go_wp2_with fail
    go_ret
    exact ⟨kret_int HR.out.symm, HBN.out⟩
  ·have hkn : k = n := by omega
   subst hkn
   rw [HZ.out, if_pos rfl] at HE
   clear HZ
   go_wp2_with fail
   generalize wr = wu at *
   go_loopw [6] (fun i wq => ∃ j : Nat, (j + 1 ≤ k ∨ j = 0) ∧ i = .int .i64 ((j : Int) + 1) ∧ (∀ i, i < j → (psth c.prs i).num < (psth c.prs (i + 1)).num) ∧ CBox wq w.heap.size c s ∧ Below w.heap.size w wq) (fun i _ => k - (intOf i).toNat)
   case atStart => exact ⟨0, .inr rfl, rfl, fun j hj => by omega, HX.out, HB.out⟩
   case round =>
    clear HX HB
    obtain ⟨j, hjk, rfl, hall, hx, hb⟩ := hrel
    have HA := Lib.hid hall
    have HX := Lib.hid hx
    have HB := Lib.hid hb
    clear hall hx hb
    obtain ⟨_, _, _, _, k4, k5, k6, _, _, _, _, _, _, _, _, _, _, _, _⟩ := HX.out.cells
    rw [hn] at k6
    by_cases hlt : j + 1 < k
    ·have hlt' : (j : Int) + 1 < (k : Int) := by omega
     have hlt0 : (j : Int) < (k : Int) := by omega
     obtain ⟨b, off, hap, hcell⟩ := HO.out (by omega)
     rw [hap] at k6
     obtain ⟨_, _, x0, _⟩ := hcell _ HB.out j (by omega)
     obtain ⟨_, _, y0, _⟩ := hcell _ HB.out (j + 1) (by omega)
     clear hcell hap
     have hsub : (j : Int) + 1 - 1 = (j : Int) := by omega
     have htn : ((j : Int) + 1).toNat = j + 1 := by omega
     have HUN := Lib.hid (fun h => upPs_at (l := c.prs) (j := j) hlt h)
     obtain ⟨u, hu⟩ : ∃ u, (psth c.prs j).num = u := ⟨_, rfl⟩
     obtain ⟨v, hv⟩ : ∃ v, (psth c.prs (j + 1)).num = v := ⟨_, rfl⟩
     rw [hu] at x0 HUN
     rw [hv] at y0 HUN
     have HU := Lib.hid hu
     have HW := Lib.hid hv
     clear hu hv
     by_cases hd : v ≤ u
     ·have hd1 : decide (v ≤ u) = true := decide_eq_true hd
      have HT := Lib.hid (HUN.out hd)
      rw [HT.out] at HE
      clear hd
      go_wp2_with fail
      go_quiet (fail)
      go_wp2_with fail
      go_ret
      exact ⟨kret_int HE.out.symm, kbelow_dN HB.out _⟩
     ·have hd1 : decide (v ≤ u) = false := decide_eq_false hd
      have HD : Hid (u < v) := by unfold Hid; omega
      clear hd
      go_wp2_with fail
      go_quiet (fail)
      go_wp2_with fail
      go_roundw
      case rel =>
       refine ⟨j + 1, .inl (by omega), by go_num, ?_, HX.out.below (kbelow_dN (Below.refl _ _) _) HX.out.lt, kbelow_dN HB.out _⟩
       intro i hi
       by_cases e : i = j
       ·subst e; rw [HU.out, HW.out]; exact HD.out
       ·exact HA.out i (by omega)
      case measure => simp [intOf]; omega
    ·have hnl : ¬ ((j : Int) + 1 < (k : Int)) := by omega
     have HT : Hid (upPs c.prs k = true) := upPs_all fun i hi => HA.out i (by omega)
     rw [HT.out] at HE
     go_wp2_with fail
     go_ret
     exact ⟨kret_int HE.out.symm, HB.out⟩
end Go.Proofs.YtkalfdjmklakdaaGreatDoor
namespace Go.Proofs.YtkalfdjmklakdaaGreatDoor
open Go.RowKit
set_option maxRecDepth 100000 in
set_option maxHeartbeats 1000000 in
theorem checkPeriod_any (F : Fs) (K A L k : Int) (w : World) :
 Calls Tryz.prog 53 #[.agg #[.int .i64 K, .int .i64 A, .int .i64 L], .int .i64 k] w fun e w' => e = .returned (.int .i64 (F.ae K A L k)) ∧ Below w.heap.size w w' := by
 have HB0 := Lib.hid (kbelow_box w (.cells #[.int .i64 K, .int .i64 A, .int .i64 L] 23))
 have HA := Lib.hid (F.ha K A L k)
 go_enter Tryz.func53, Tryz.ntmps53
 go_wp2_with fail
 refine (Cal.At_any K A L k _).mono ?_
 rintro e w1 ⟨f, t, er, rfl, hat, hb1⟩
 obtain rfl := HA.out f t er hat
 have HB1 := Lib.hid (HB0.out.trans (hb1.mono HB0.out.size))
 have HB2 := Lib.hid (HB1.out.alloc HB1.out.size (.cells #[.int .i64 f, .int .i64 t] 41))
 clear hat hb1
 go_wp2_with fail
 go_ret
 exact ⟨rfl, HB2.out⟩
set_option maxRecDepth 100000 in
set_option maxHeartbeats 1000000 in
theorem run1 (b : Nat) (c : Co) (s : Ly) (w : World) (hb : CBox w b c s) :
 Calls Tryz.prog 79 #[.pointer (some ⟨b, 0, none⟩)] w fun e w' => e = .returned (.int .i64 (ifE (!decide (0 ≤ c.num ∧ c.num ≤ 999)) 3)) ∧ Below w.heap.size w w' := by
 obtain ⟨_, _, _, _, _, _, _, k7, _⟩ := hb.cells
 obtain ⟨z, hz⟩ : ∃ z, c.num = z := ⟨_, rfl⟩
 rw [hz] at k7
 rw [hz]
 clear hz hb
 by_cases h1 : z < 0
 ·have HD : Hid ((!decide (0 ≤ z ∧ z ≤ 999)) = true) := by unfold Hid; rw [decide_eq_false (by omega)]; rfl
  have h1' : decide (z < 0) = true := decide_eq_true h1
  clear h1
  go_enter Tryz.func79, Tryz.ntmps79
  go_wp2_with (first | (go_at_call 21; refine (when_any _ _ _).mono ?_; rintro e w' ⟨rfl, h'⟩; subst w'))
  go_ret
  exact ⟨by rw [HD.out]; rfl, Below.refl _ _⟩
 ·have h1' : decide (z < 0) = false := decide_eq_false h1
  by_cases h2 : 999 < z
  ·have HD : Hid ((!decide (0 ≤ z ∧ z ≤ 999)) = true) := by unfold Hid; rw [decide_eq_false (by omega)]; rfl
   have h2' : decide (999 < z) = true := decide_eq_true h2
   clear h1 h2
   go_enter Tryz.func79, Tryz.ntmps79
   go_wp2_with (first | (go_at_call 21; refine (when_any _ _ _).mono ?_; rintro e w' ⟨rfl, h'⟩; subst w'))
   go_ret
   exact ⟨by rw [HD.out]; rfl, Below.refl _ _⟩
  ·have HD : Hid ((!decide (0 ≤ z ∧ z ≤ 999)) = false) := by unfold Hid; rw [decide_eq_true (by omega)]; rfl
   have h2' : decide (999 < z) = false := decide_eq_false h2
   clear h1 h2
   go_enter Tryz.func79, Tryz.ntmps79
   go_wp2_with (first | (go_at_call 21; refine (when_any _ _ _).mono ?_; rintro e w' ⟨rfl, h'⟩; subst w'))
   go_ret
   exact ⟨by rw [HD.out]; rfl, Below.refl _ _⟩
set_option maxRecDepth 100000 in
set_option maxHeartbeats 1000000 in
theorem run2 (F : Fs) (b : Nat) (c : Co) (s : Ly) (w : World) (hb : CBox w b c s) :
 Calls Tryz.prog 80 #[.pointer (some ⟨b, 0, none⟩)] w fun e w' => e = .returned (.int .i64 (F.ae c.K c.A c.L c.per)) ∧ Below w.heap.size w w' := by
 obtain ⟨_, k1, k2, k3, _, _, _, _, k8, _⟩ := hb.cells
 clear hb
 go_enter Tryz.func80, Tryz.ntmps80
 go_wp2_with fail
 refine (checkPeriod_any F c.K c.A c.L c.per _).mono ?_
 rintro e w1 ⟨rfl, hb1⟩
 have HB1 := Lib.hid hb1
 clear hb1
 go_wp2_with fail
 go_ret
 exact ⟨rfl, HB1.out⟩
set_option maxRecDepth 100000 in
set_option maxHeartbeats 1000000 in
theorem run3 (b : Nat) (c : Co) (s : Ly) (w : World) (hb : CBox w b c s) (hw : Rn.WfR c.run) :
 Calls Tryz.prog 81 #[.pointer (some ⟨b, 0, none⟩)] w fun e w' => e = .returned (.int .i64 (Rn.runE c.run)) ∧ Below w.heap.size w w' := by
 obtain ⟨_, _, _, _, _, _, _, _, _, k9, k10, k11, k12, k13, k14, k15, k16, _⟩ := hb.cells
 have HW := Lib.hid hw
 clear hb hw
 go_enter Tryz.func81, Tryz.ntmps81
 go_wp2_with fail
 refine (Rn.Check_any c.run _ HW.out).mono ?_
 rintro e w1 ⟨rfl, hb1⟩
 have HB1 := Lib.hid hb1
 clear hb1
 go_wp2_with fail
 go_ret
 exact ⟨rfl, HB1.out⟩
set_option maxRecDepth 100000 in
set_option maxHeartbeats 1000000 in
theorem run4 (b : Nat) (c : Co) (s : Ly) (w : World) (hb : CBox w b c s) :
 Calls Tryz.prog 83 #[.pointer (some ⟨b, 0, none⟩)] w fun e w' => e = .returned (.int .i64 (ifE (decide (c.num = 0) && !decide (c.per = 0 ∧ c.run 0 = 0)) 4)) ∧ Below w.heap.size w w' := by
 obtain ⟨_, _, _, _, _, _, _, k7, k8, k9, _⟩ := hb.cells
 obtain ⟨z, hz⟩ : ∃ z, c.num = z := ⟨_, rfl⟩
 obtain ⟨y, hy⟩ : ∃ y, c.per = y := ⟨_, rfl⟩
 obtain ⟨x, hx⟩ : ∃ x, c.run 0 = x := ⟨_, rfl⟩
 rw [hz] at k7
 rw [hy] at k8
 rw [hx] at k9
 rw [hz, hy, hx]
 clear hz hy hx hb
 by_cases h1 : z = 0
 ·subst h1
  by_cases h2 : y = 0
  ·subst h2
   by_cases h3 : x = 0
   ·subst h3
    go_enter Tryz.func83, Tryz.ntmps83
    go_wp2_with (first | (go_at_call 21; refine (when_any _ _ _).mono ?_; rintro e w' ⟨rfl, h'⟩; subst w'))
    go_ret
    exact ⟨rfl, Below.refl _ _⟩
   ·have h3' : (x != 0) = true := by simp [h3]
    have HD : Hid ((decide ((0 : Int) = 0) && !decide ((0 : Int) = 0 ∧ x = 0)) = true) := by unfold Hid; rw [decide_eq_false (p := (0 : Int) = 0 ∧ x = 0) (fun h => h3 h.2)]; rfl
    clear h3
    go_enter Tryz.func83, Tryz.ntmps83
    go_wp2_with (first | (go_at_call 21; refine (when_any _ _ _).mono ?_; rintro e w' ⟨rfl, h'⟩; subst w'))
    go_ret
    exact ⟨by rw [HD.out]; rfl, Below.refl _ _⟩
  ·have h2' : (y != 0) = true := by simp [h2]
   have HD : Hid ((decide ((0 : Int) = 0) && !decide (y = 0 ∧ x = 0)) = true) := by unfold Hid; rw [decide_eq_false (p := y = 0 ∧ x = 0) (fun h => h2 h.1)]; rfl
   clear h2
   go_enter Tryz.func83, Tryz.ntmps83
   go_wp2_with (first | (go_at_call 21; refine (when_any _ _ _).mono ?_; rintro e w' ⟨rfl, h'⟩; subst w'))
   go_ret
   exact ⟨by rw [HD.out]; rfl, Below.refl _ _⟩
 ·have h1' : (z == 0) = false := by simp [h1]
  have HD : Hid ((decide (z = 0) && !decide (y = 0 ∧ x = 0)) = false) := by unfold Hid; rw [decide_eq_false h1]; rfl
  clear h1
  go_enter Tryz.func83, Tryz.ntmps83
  go_wp2_with (first | (go_at_call 21; refine (when_any _ _ _).mono ?_; rintro e w' ⟨rfl, h'⟩; subst w'))
  go_ret
  exact ⟨by rw [HD.out]; rfl, Below.refl _ _⟩
def fF (l : List FuncId) (j : Nat) : FuncId := l.getD j 0
def fC (l : List (Array Value)) (j : Nat) : Array Value := l.getD j #[]
def pt (b : Nat) : Value := .pointer (some ⟨b, 0, none⟩)
set_option maxRecDepth 100000 in
set_option maxHeartbeats 1000000 in
theorem checkRun_any (F : Fs) (c : Co) (s : Ly) (w : World) (hw : Rn.WfR c.run) :
 Calls Tryz.prog 32 #[.agg (coA c s)] w fun e w' => e = .returned (.int .i64 (fstL (runL F c))) ∧ Below w.heap.size w w' := by
 have hx0 := CBox.made w c s
 have h1 := kbelow_box (w.alloc (.cells (coA c s) 33)) (.cells #[.func (.func 79) #[] #[.pointer (some ⟨w.heap.size, 0, none⟩)], .func (.func 80) #[] #[.pointer (some ⟨w.heap.size, 0, none⟩)], .func (.func 81) #[] #[.pointer (some ⟨w.heap.size, 0, none⟩)], .func (.func 83) #[] #[.pointer (some ⟨w.heap.size, 0, none⟩)]] 66)
 have hx := hx0.below h1 hx0.lt
 have HB := Lib.hid ((kbelow_box w (.cells (coA c s) 33)).trans (h1.mono (by simp)))
 have HK := Lib.hid (first_any (w.heap.size + 1) 4 4 (fF [79, 80, 81, 83]) (fun _ => #[.pointer (some ⟨w.heap.size, 0, none⟩)]) (fun j => (runL F c).getD j 0) ((w.alloc (.cells (coA c s) 33)).alloc (.cells #[.func (.func 79) #[] #[.pointer (some ⟨w.heap.size, 0, none⟩)], .func (.func 80) #[] #[.pointer (some ⟨w.heap.size, 0, none⟩)], .func (.func 81) #[] #[.pointer (some ⟨w.heap.size, 0, none⟩)], .func (.func 83) #[] #[.pointer (some ⟨w.heap.size, 0, none⟩)]] 66)) (by omega)
  (fun j hj => by
   match j, hj with
   | 0, _ => simp [fF]
   | 1, _ => simp [fF]
   | 2, _ => simp [fF]
   | 3, _ => simp [fF])
  (fun j hj w => by
   match j, hj with
   | 0, _ => simp [fF, go_sem]
   | 1, _ => simp [fF, go_sem]
   | 2, _ => simp [fF, go_sem]
   | 3, _ => simp [fF, go_sem])
  (fun j hj _ w' hb => by
   match j, hj with
   | 0, _ => exact run1 _ c s w' (hx.below hb hx.lt)
   | 1, _ => exact run2 F _ c s w' (hx.below hb hx.lt)
   | 2, _ => exact run3 _ c s w' (hx.below hb hx.lt) hw
   | 3, _ => exact run4 _ c s w' (hx.below hb hx.lt)))
 clear hx0 h1 hx hw
 go_enter Tryz.func32, Tryz.ntmps32
 go_wp2_with fail
 refine HK.out.mono ?_
 rintro e w1 ⟨rfl, hb1⟩
 have HB1 := Lib.hid (HB.out.trans (hb1.mono HB.out.size))
 clear hb1
 go_wp2_with fail
 go_ret
 exact ⟨rfl, HB1.out⟩
end Go.Proofs.YtkalfdjmklakdaaGreatDoor
namespace Go.Proofs.YtkalfdjmklakdaaGreatDoor
open Go.RowKit
set_option maxRecDepth 100000 in
set_option maxHeartbeats 1000000 in
theorem slN_any (b : Nat) (c : Co) (s : Ly) (r : Sq.Slp.Sl) (ax : Option Addr) (cx : Nat) (w : World) (hc : CameC w s c) (hb : CBox w b c s) :
 Calls Tryz.prog 84 #[.agg #[.int .i64 r.num, .int .i64 r.per, .int .i64 r.run, .bool r.gone, .slice ax r.tot.length cx], .pointer (some ⟨b, 0, none⟩)] w fun e w' => e = .returned (.bool (!perN c.prs r.per)) ∧ Below w.heap.size w w' := by
 obtain ⟨n, hn⟩ : ∃ n, r.tot.length = n := ⟨_, rfl⟩
 have HB0 := Lib.hid (kbelow_box w (.cells #[.int .i64 r.num, .int .i64 r.per, .int .i64 r.run, .bool r.gone, .slice ax r.tot.length cx] 84))
 obtain ⟨_, _, _, _, _, _, k6, _⟩ := (hb.below HB0.out hb.lt).cells
 have HP := Lib.hid (place_any s.ap s.np s.cp c.prs r.per _ (hc.p.below HB0.out) hc.np hc.mp)
 have HN : Hid (perN c.prs r.per = anyN (fun j => (psth c.prs j).num == r.per) s.np) := by unfold Hid perN; rw [hc.np]
 clear hc hb
 rw [hn] at HB0 HP k6 ⊢
 clear hn
 go_enter Tryz.func84, Tryz.ntmps84
 go_wp2_with fail
 refine HP.out.mono ?_
 rintro e w1 ⟨v, rfl, hv, hb1⟩
 have HB1 := Lib.hid (HB0.out.trans (hb1.mono HB0.out.size))
 have HV := Lib.hid hv.neg
 clear hv hb1 k6
 cases hx : anyN (fun j => (psth c.prs j).num == r.per) s.np
 ·have h0 : decide (v < 0) = true := decide_eq_true (HV.out.2 hx)
  have HR : Hid ((!perN c.prs r.per) = true) := by unfold Hid; rw [HN.out, hx]; rfl
  go_wp2_with fail
  go_ret
  exact ⟨kret_bool HR.out.symm, HB1.out⟩
 ·have h0 : decide (v < 0) = false := decide_eq_false (fun h => by have := HV.out.1 h; rw [hx] at this; cases this)
  have HR : Hid ((!perN c.prs r.per) = false) := by unfold Hid; rw [HN.out, hx]; rfl
  go_wp2_with fail
  go_ret
  exact ⟨kret_bool HR.out.symm, HB1.out⟩
set_option maxRecDepth 100000 in
set_option maxHeartbeats 1000000 in
theorem slS_any (b : Nat) (c : Co) (s : Ly) (r : Sq.Slp.Sl) (ax : Option Addr) (cx : Nat) (w : World) (hc : CameC w s c) (hb : CBox w b c s) (hp : Sq.Slp.PsAt w ax r.tot) :
 Calls Tryz.prog 86 #[.agg #[.int .i64 r.num, .int .i64 r.per, .int .i64 r.run, .bool r.gone, .slice ax r.tot.length cx], .pointer (some ⟨b, 0, none⟩)] w fun e w' => e = .returned (.bool (strangeB c.lns r)) ∧ Below w.heap.size w w' := by
 have HB0 := Lib.hid (kbelow_box w (.cells #[.int .i64 r.num, .int .i64 r.per, .int .i64 r.run, .bool r.gone, .slice ax r.tot.length cx] 84))
 obtain ⟨_, _, _, _, k4, _⟩ := (hb.below HB0.out hb.lt).cells
 have HP := Lib.hid (hasStrange_any s.al s.nl s.cl c.lns r ax cx _ (hc.l.below HB0.out) hc.nl hc.ml (hp.below HB0.out))
 obtain ⟨n, hn⟩ : ∃ n, r.tot.length = n := ⟨_, rfl⟩
 clear hc hb hp
 rw [hn] at HB0 HP k4 ⊢
 clear hn
 go_enter Tryz.func86, Tryz.ntmps86
 go_wp2_with fail
 refine HP.out.mono ?_
 rintro e w1 ⟨rfl, hb1⟩
 have HB1 := Lib.hid (HB0.out.trans (hb1.mono HB0.out.size))
 clear hb1 k4
 go_wp2_with fail
 go_ret
 exact ⟨rfl, HB1.out⟩
set_option maxRecDepth 100000 in
set_option maxHeartbeats 1000000 in
theorem slL_any (b : Nat) (c : Co) (s : Ly) (r : Sq.Slp.Sl) (ax : Option Addr) (cx : Nat) (w : World) (hb : CBox w b c s) :
 Calls Tryz.prog 88 #[.agg #[.int .i64 r.num, .int .i64 r.per, .int .i64 r.run, .bool r.gone, .slice ax r.tot.length cx], .pointer (some ⟨b, 0, none⟩)] w fun e w' => e = .returned (.bool (decide (c.num < r.run))) ∧ Below w.heap.size w w' := by
 have HB0 := Lib.hid (kbelow_box w (.cells #[.int .i64 r.num, .int .i64 r.per, .int .i64 r.run, .bool r.gone, .slice ax r.tot.length cx] 84))
 obtain ⟨_, _, _, _, _, _, _, k7, _⟩ := (hb.below HB0.out hb.lt).cells
 obtain ⟨n, hn⟩ : ∃ n, r.tot.length = n := ⟨_, rfl⟩
 clear hb
 rw [hn] at HB0 k7 ⊢
 clear hn
 go_enter Tryz.func88, Tryz.ntmps88
 go_wp2_with fail
 go_ret
 exact ⟨rfl, HB0.out⟩
set_option maxRecDepth 100000 in
set_option maxHeartbeats 1000000 in
theorem slp4 (b : Nat) (c : Co) (s : Ly) (w : World) (hb : CBox w b c s) (hc : CameC w s c) :
 Calls Tryz.prog 89 #[.pointer (some ⟨b, 0, none⟩)] w fun e w' => e = .returned (.int .i64 (Sq.Slp.slE c.sls)) ∧ Below w.heap.size w w' := by
 obtain ⟨_, _, _, _, _, _, _, _, _, _, _, _, _, _, _, _, _, k17, _⟩ := hb.cells
 have HC := Lib.hid (Sq.Slp.Check_any s.az s.nz s.cz c.sls w hc.z hc.nz)
 clear hb hc
 go_enter Tryz.func89, Tryz.ntmps89
 go_wp2_with fail
 refine HC.out.mono ?_
 rintro e w1 ⟨rfl, hb1⟩
 have HB1 := Lib.hid hb1
 clear hb1
 go_wp2_with fail
 go_ret
 exact ⟨rfl, HB1.out⟩
set_option maxRecDepth 100000 in
set_option maxHeartbeats 1000000 in
theorem slp5 (b q : Nat) (c : Co) (s : Ly) (w : World) (hb : CBox w b c s) (hc : CameC w s c) (hq : w.cell? ⟨q, 0, none⟩ = some (.func (.func 84) #[] #[.pointer (some ⟨b, 0, none⟩)])) :
 Calls Tryz.prog 91 #[.pointer (some ⟨b, 0, none⟩), .pointer (some ⟨q, 0, none⟩)] w fun e w' => e = .returned (.int .i64 (ifE (anyN (fun j => !perN c.prs (Sq.Slp.snth c.sls j).per) c.sls.length) 5)) ∧ Below w.heap.size w w' := by
 obtain ⟨_, _, _, _, _, _, _, _, _, _, _, _, _, _, _, _, _, k17, _⟩ := hb.cells
 have HC := Lib.hid (anySl 84 b (fun j => !perN c.prs (Sq.Slp.snth c.sls j).per) s.az s.nz s.cz c.sls w hc.z hc.nz hc.mz (fun _ _ => by simp [go_sem]) (fun j hj w' ax cx hw hp => slN_any b c s (Sq.Slp.snth c.sls j) ax cx w' (hc.below hw) (hb.below hw hb.lt)))
 rw [hc.nz]
 clear hb hc
 obtain ⟨x, hx⟩ : ∃ x, anyN (fun j => !perN c.prs (Sq.Slp.snth c.sls j).per) s.nz = x := ⟨_, rfl⟩
 rw [hx] at HC ⊢
 clear hx
 go_enter Tryz.func91, Tryz.ntmps91
 go_wp2_with fail
 refine HC.out.mono ?_
 rintro e w1 ⟨rfl, hb1⟩
 have HB1 := Lib.hid hb1
 clear hb1
 go_wp2_with (first | (go_at_call 21; refine (when_any _ _ _).mono ?_; rintro e w' ⟨rfl, h'⟩; subst w'))
 go_ret
 exact ⟨rfl, HB1.out⟩
set_option maxRecDepth 100000 in
set_option maxHeartbeats 1000000 in
theorem slp6 (b q : Nat) (c : Co) (s : Ly) (w : World) (hb : CBox w b c s) (hc : CameC w s c) (hq : w.cell? ⟨q, 0, none⟩ = some (.func (.func 86) #[] #[.pointer (some ⟨b, 0, none⟩)])) :
 Calls Tryz.prog 93 #[.pointer (some ⟨b, 0, none⟩), .pointer (some ⟨q, 0, none⟩)] w fun e w' => e = .returned (.int .i64 (ifE (anyN (fun j => strangeB c.lns (Sq.Slp.snth c.sls j)) c.sls.length) 5)) ∧ Below w.heap.size w w' := by
 obtain ⟨_, _, _, _, _, _, _, _, _, _, _, _, _, _, _, _, _, k17, _⟩ := hb.cells
 have HC := Lib.hid (anySl 86 b (fun j => strangeB c.lns (Sq.Slp.snth c.sls j)) s.az s.nz s.cz c.sls w hc.z hc.nz hc.mz (fun _ _ => by simp [go_sem]) (fun j hj w' ax cx hw hp => slS_any b c s (Sq.Slp.snth c.sls j) ax cx w' (hc.below hw) (hb.below hw hb.lt) hp))
 rw [hc.nz]
 clear hb hc
 obtain ⟨x, hx⟩ : ∃ x, anyN (fun j => strangeB c.lns (Sq.Slp.snth c.sls j)) s.nz = x := ⟨_, rfl⟩
 rw [hx] at HC ⊢
 clear hx
 go_enter Tryz.func93, Tryz.ntmps93
 go_wp2_with fail
 refine HC.out.mono ?_
 rintro e w1 ⟨rfl, hb1⟩
 have HB1 := Lib.hid hb1
 clear hb1
 go_wp2_with (first | (go_at_call 21; refine (when_any _ _ _).mono ?_; rintro e w' ⟨rfl, h'⟩; subst w'))
 go_ret
 exact ⟨rfl, HB1.out⟩
set_option maxRecDepth 100000 in
set_option maxHeartbeats 1000000 in
theorem slp7 (b q : Nat) (c : Co) (s : Ly) (w : World) (hb : CBox w b c s) (hc : CameC w s c) (hq : w.cell? ⟨q, 0, none⟩ = some (.func (.func 88) #[] #[.pointer (some ⟨b, 0, none⟩)])) :
 Calls Tryz.prog 94 #[.pointer (some ⟨b, 0, none⟩), .pointer (some ⟨q, 0, none⟩)] w fun e w' => e = .returned (.int .i64 (ifE (anyN (fun j => decide (c.num < (Sq.Slp.snth c.sls j).run)) c.sls.length) 3)) ∧ Below w.heap.size w w' := by
 obtain ⟨_, _, _, _, _, _, _, _, _, _, _, _, _, _, _, _, _, k17, _⟩ := hb.cells
 have HC := Lib.hid (anySl 88 b (fun j => decide (c.num < (Sq.Slp.snth c.sls j).run)) s.az s.nz s.cz c.sls w hc.z hc.nz hc.mz (fun _ _ => by simp [go_sem]) (fun j hj w' ax cx hw hp => slL_any b c s (Sq.Slp.snth c.sls j) ax cx w' (hb.below hw hb.lt)))
 rw [hc.nz]
 clear hb hc
 obtain ⟨x, hx⟩ : ∃ x, anyN (fun j => decide (c.num < (Sq.Slp.snth c.sls j).run)) s.nz = x := ⟨_, rfl⟩
 rw [hx] at HC ⊢
 clear hx
 go_enter Tryz.func94, Tryz.ntmps94
 go_wp2_with fail
 refine HC.out.mono ?_
 rintro e w1 ⟨rfl, hb1⟩
 have HB1 := Lib.hid hb1
 clear hb1
 go_wp2_with (first | (go_at_call 21; refine (when_any _ _ _).mono ?_; rintro e w' ⟨rfl, h'⟩; subst w'))
 go_ret
 exact ⟨rfl, HB1.out⟩
theorem row_at (V : World) (cs : Array Value) (T : TypeId) (g j : Nat) (v : Value) (hg : g = V.heap.size) (h : cs[j]? = some v) : (V.alloc (.cells cs T)).cell? ⟨g, j, none⟩ = some v := by
 subst hg
 rw [cell_of_row _ _ _ _ _ _ (heap_alloc_new V (.cells cs T))]
 exact h
theorem past_at (V : World) (o : Obj) (p : Addr) (v : Value) (hp : p.block < V.heap.size) (h : V.cell? p = some v) : (V.alloc o).cell? p = some v := ((kbelow_box V o).cell hp).trans h
set_option maxRecDepth 100000 in
set_option maxHeartbeats 1000000 in
theorem checkSlips_any (c : Co) (s : Ly) (w : World) (hc : CameC w s c) :
 Calls Tryz.prog 34 #[.agg (coA c s)] w fun e w' => e = .returned (.int .i64 (fstL (slpL c))) ∧ Below w.heap.size w w' := by
 have hx0 := CBox.made w c s
 have h1 : Below (w.heap.size + 1) (w.alloc (.cells (coA c s) 33)) (((((w.alloc (.cells (coA c s) 33)).alloc (.cells #[.func (.func 84) #[] #[.pointer (some ⟨w.heap.size, 0, none⟩)]] 115)).alloc (.cells #[.func (.func 86) #[] #[.pointer (some ⟨w.heap.size, 0, none⟩)]] 115)).alloc (.cells #[.func (.func 88) #[] #[.pointer (some ⟨w.heap.size, 0, none⟩)]] 115)).alloc (.cells #[.func (.func 89) #[] #[.pointer (some ⟨w.heap.size, 0, none⟩)], .func (.func 91) #[] #[.pointer (some ⟨w.heap.size, 0, none⟩), .pointer (some ⟨w.heap.size + 1, 0, none⟩)], .func (.func 93) #[] #[.pointer (some ⟨w.heap.size, 0, none⟩), .pointer (some ⟨w.heap.size + 2, 0, none⟩)], .func (.func 94) #[] #[.pointer (some ⟨w.heap.size, 0, none⟩), .pointer (some ⟨w.heap.size + 3, 0, none⟩)]] 66)) := ((((Below.refl _ _).alloc (by simp) _).alloc (by simp) _).alloc (by simp) _).alloc (by simp) _
 have hx := hx0.below h1 (by omega)
 have hb0 := (kbelow_box w (.cells (coA c s) 33)).trans (h1.mono (by omega))
 have HB := Lib.hid hb0
 have hcc := hc.below hb0
 have HK := Lib.hid (first_any (w.heap.size + 4) 4 4 (fF [89, 91, 93, 94]) (fC [#[.pointer (some ⟨w.heap.size, 0, none⟩)], #[.pointer (some ⟨w.heap.size, 0, none⟩), .pointer (some ⟨w.heap.size + 1, 0, none⟩)], #[.pointer (some ⟨w.heap.size, 0, none⟩), .pointer (some ⟨w.heap.size + 2, 0, none⟩)], #[.pointer (some ⟨w.heap.size, 0, none⟩), .pointer (some ⟨w.heap.size + 3, 0, none⟩)]]) (fun j => (slpL c).getD j 0) (((((w.alloc (.cells (coA c s) 33)).alloc (.cells #[.func (.func 84) #[] #[.pointer (some ⟨w.heap.size, 0, none⟩)]] 115)).alloc (.cells #[.func (.func 86) #[] #[.pointer (some ⟨w.heap.size, 0, none⟩)]] 115)).alloc (.cells #[.func (.func 88) #[] #[.pointer (some ⟨w.heap.size, 0, none⟩)]] 115)).alloc (.cells #[.func (.func 89) #[] #[.pointer (some ⟨w.heap.size, 0, none⟩)], .func (.func 91) #[] #[.pointer (some ⟨w.heap.size, 0, none⟩), .pointer (some ⟨w.heap.size + 1, 0, none⟩)], .func (.func 93) #[] #[.pointer (some ⟨w.heap.size, 0, none⟩), .pointer (some ⟨w.heap.size + 2, 0, none⟩)], .func (.func 94) #[] #[.pointer (some ⟨w.heap.size, 0, none⟩), .pointer (some ⟨w.heap.size + 3, 0, none⟩)]] 66)) (by omega)
  (fun j hj => by
   match j, hj with
   | 0, _ => exact row_at _ _ _ _ _ _ (by simp only [World.size_alloc] <;> omega) rfl
   | 1, _ => exact row_at _ _ _ _ _ _ (by simp only [World.size_alloc] <;> omega) rfl
   | 2, _ => exact row_at _ _ _ _ _ _ (by simp only [World.size_alloc] <;> omega) rfl
   | 3, _ => exact row_at _ _ _ _ _ _ (by simp only [World.size_alloc] <;> omega) rfl)
  (fun j hj w => by
   match j, hj with
   | 0, _ => simp [fF, fC, go_sem]
   | 1, _ => simp [fF, fC, go_sem]
   | 2, _ => simp [fF, fC, go_sem]
   | 3, _ => simp [fF, fC, go_sem])
  (fun j hj _ w' hb => by
   match j, hj with
   | 0, _ => exact slp4 _ c s w' (hx.below hb hx.lt) (hcc.below hb)
   | 1, _ => exact slp5 _ _ c s w' (hx.below hb hx.lt) (hcc.below hb) ((hb.cell (p := ⟨w.heap.size + 1, 0, none⟩) (by simp only [World.size_alloc] <;> omega)).trans (past_at _ _ _ _ (by simp only [World.size_alloc] <;> omega) (past_at _ _ _ _ (by simp only [World.size_alloc] <;> omega) (past_at _ _ _ _ (by simp only [World.size_alloc] <;> omega) (row_at _ _ _ _ _ _ (by simp only [World.size_alloc] <;> omega) rfl)))))
   | 2, _ => exact slp6 _ _ c s w' (hx.below hb hx.lt) (hcc.below hb) ((hb.cell (p := ⟨w.heap.size + 2, 0, none⟩) (by simp only [World.size_alloc] <;> omega)).trans (past_at _ _ _ _ (by simp only [World.size_alloc] <;> omega) (past_at _ _ _ _ (by simp only [World.size_alloc] <;> omega) (row_at _ _ _ _ _ _ (by simp only [World.size_alloc] <;> omega) rfl))))
   | 3, _ => exact slp7 _ _ c s w' (hx.below hb hx.lt) (hcc.below hb) ((hb.cell (p := ⟨w.heap.size + 3, 0, none⟩) (by simp only [World.size_alloc] <;> omega)).trans (past_at _ _ _ _ (by simp only [World.size_alloc] <;> omega) (row_at _ _ _ _ _ _ (by simp only [World.size_alloc] <;> omega) rfl)))))
 clear hx0 h1 hx hb0 hcc hc
 go_enter Tryz.func34, Tryz.ntmps34
 go_wp2_with fail
 refine HK.out.mono ?_
 rintro e w1 ⟨rfl, hb1⟩
 have HB1 := Lib.hid (HB.out.trans (hb1.mono HB.out.size))
 clear hb1
 go_wp2_with fail
 go_ret
 exact ⟨rfl, HB1.out⟩
def behB (j : List Sq.Ldg.En) (d : Int) : Bool := decide (0 < j.length) && decide (d < (Sq.Ldg.enth j (j.length - 1)).day)
set_option maxRecDepth 100000 in
set_option maxHeartbeats 1000000 in
theorem isBehind_any (a : Option Addr) (n cap : Nat) (l : List Sq.Ldg.En) (d : Int) (w : World) (hc : Sq.Ldg.CameE w a l) (hn : l.length = n) (hm : n ≤ maxLen) :
 Calls Tryz.prog 98 #[.slice a n cap, .int .i64 d] w fun e w' => e = .returned (.bool (behB l d)) ∧ Below w.heap.size w w' := by
 have hm' : n ≤ 9223372036854775807 := by unfold maxLen at hm; omega
 by_cases h0 : 0 < n
 ·obtain ⟨b, off, rfl, hcell⟩ := hc.open hn h0
  obtain ⟨q, rfl⟩ : ∃ q, n = q + 1 := ⟨n - 1, by omega⟩
  obtain ⟨ax, cx, x0, _⟩ := hcell w (Below.refl _ _) q (by omega)
  have HR : Hid (behB l d = decide (d < (Sq.Ldg.enth l q).day)) := by
   unfold Hid behB
   rw [hn, decide_eq_true (by omega), Bool.true_and]; rfl
  have hsub : ((q + 1 : Nat) : Int) - 1 = (q : Int) := by omega
  have hpos : (0 : Int) < ((q + 1 : Nat) : Int) := by omega
  have hposB : decide ((0 : Int) < ((q + 1 : Nat) : Int)) = true := decide_eq_true hpos
  have hql : (q : Int) < ((q + 1 : Nat) : Int) := by omega
  rw [HR.out]
  clear hcell hc hn hm HR
  rw [show ((q + 1 : Nat) : Int) = (q : Int) + 1 by omega] at hsub hpos hposB hql
  go_enter Tryz.func98, Tryz.ntmps98
  go_wp2_with fail
  go_ret
  exact ⟨rfl, Below.refl _ _⟩
 ·obtain rfl : n = 0 := by omega
  have HR : Hid (behB l d = false) := by unfold Hid behB; rw [hn]; rfl
  clear hc hn hm
  go_enter Tryz.func98, Tryz.ntmps98
  go_wp2_with fail
  go_ret
  exact ⟨kret_bool HR.out.symm, Below.refl _ _⟩
set_option maxRecDepth 100000 in
set_option maxHeartbeats 1000000 in
theorem jrn1 (b : Nat) (c : Co) (s : Ly) (w : World) (hb : CBox w b c s) (hc : CameC w s c) :
 Calls Tryz.prog 95 #[.pointer (some ⟨b, 0, none⟩)] w fun e w' => e = .returned (.int .i64 (Sq.Ldg.jrE c.jr)) ∧ Below w.heap.size w w' := by
 obtain ⟨_, _, _, _, _, _, _, _, _, _, _, _, _, _, _, _, _, _, k18⟩ := hb.cells
 have HC := Lib.hid (Sq.Ldg.Check_any s.aj s.nj s.cj c.jr w hc.j hc.nj)
 clear hb hc
 go_enter Tryz.func95, Tryz.ntmps95
 go_wp2_with fail
 refine HC.out.mono ?_
 rintro e w1 ⟨rfl, hb1⟩
 have HB1 := Lib.hid hb1
 clear hb1
 go_wp2_with fail
 go_ret
 exact ⟨rfl, HB1.out⟩
set_option maxRecDepth 100000 in
set_option maxHeartbeats 1000000 in
theorem jrn2 (b : Nat) (c : Co) (s : Ly) (w : World) (hb : CBox w b c s) (hc : CameC w s c) :
 Calls Tryz.prog 97 #[.pointer (some ⟨b, 0, none⟩)] w fun e w' => e = .returned (.int .i64 (ifE (behB c.jr c.today) 10)) ∧ Below w.heap.size w w' := by
 obtain ⟨k0, _, _, _, _, _, _, _, _, _, _, _, _, _, _, _, _, _, k18⟩ := hb.cells
 have HC := Lib.hid (isBehind_any s.aj s.nj s.cj c.jr c.today w hc.j hc.nj hc.mj)
 clear hb hc
 go_enter Tryz.func97, Tryz.ntmps97
 go_wp2_with fail
 refine HC.out.mono ?_
 rintro e w1 ⟨rfl, hb1⟩
 have HB1 := Lib.hid hb1
 clear hb1
 go_wp2_with (first | (go_at_call 21; refine (when_any _ _ _).mono ?_; rintro e w' ⟨rfl, h'⟩; subst w'))
 go_ret
 exact ⟨rfl, HB1.out⟩
set_option maxRecDepth 100000 in
set_option maxHeartbeats 1000000 in
theorem checkJournal_any (c : Co) (s : Ly) (w : World) (hc : CameC w s c) :
 Calls Tryz.prog 36 #[.agg (coA c s)] w fun e w' => e = .returned (.int .i64 (fstL (jrnL c))) ∧ Below w.heap.size w w' := by
 have hx0 := CBox.made w c s
 have h1 := kbelow_box (w.alloc (.cells (coA c s) 33)) (.cells #[.func (.func 95) #[] #[.pointer (some ⟨w.heap.size, 0, none⟩)], .func (.func 97) #[] #[.pointer (some ⟨w.heap.size, 0, none⟩)]] 66)
 have hx := hx0.below h1 hx0.lt
 have hb0 := (kbelow_box w (.cells (coA c s) 33)).trans (h1.mono (by simp))
 have HB := Lib.hid hb0
 have hcc := hc.below hb0
 have HK := Lib.hid (first_any (w.heap.size + 1) 2 2 (fF [95, 97]) (fun _ => #[.pointer (some ⟨w.heap.size, 0, none⟩)]) (fun j => (jrnL c).getD j 0) ((w.alloc (.cells (coA c s) 33)).alloc (.cells #[.func (.func 95) #[] #[.pointer (some ⟨w.heap.size, 0, none⟩)], .func (.func 97) #[] #[.pointer (some ⟨w.heap.size, 0, none⟩)]] 66)) (by omega)
  (fun j hj => by
   match j, hj with
   | 0, _ => simp [fF]
   | 1, _ => simp [fF])
  (fun j hj w => by
   match j, hj with
   | 0, _ => simp [fF, go_sem]
   | 1, _ => simp [fF, go_sem])
  (fun j hj _ w' hb => by
   match j, hj with
   | 0, _ => exact jrn1 _ c s w' (hx.below hb hx.lt) (hcc.below hb)
   | 1, _ => exact jrn2 _ c s w' (hx.below hb hx.lt) (hcc.below hb)))
 clear hx0 h1 hx hb0 hcc hc
 go_enter Tryz.func36, Tryz.ntmps36
 go_wp2_with fail
 refine HK.out.mono ?_
 rintro e w1 ⟨rfl, hb1⟩
 have HB1 := Lib.hid (HB.out.trans (hb1.mono HB.out.size))
 clear hb1
 go_wp2_with fail
 go_ret
 exact ⟨rfl, HB1.out⟩
end Go.Proofs.YtkalfdjmklakdaaGreatDoor
namespace Go.Proofs.YtkalfdjmklakdaaGreatDoor
open Go.RowKit
set_option maxRecDepth 100000 in
set_option maxHeartbeats 1000000 in
theorem chk1 (b : Nat) (c : Co) (s : Ly) (w : World) (hb : CBox w b c s) :
 Calls Tryz.prog 20 #[.pointer (some ⟨b, 0, none⟩)] w fun e w' => e = .returned (.int .i64 (ifE (!Cal.dayB c.today) 3)) ∧ Below w.heap.size w w' := by
 obtain ⟨k0, _⟩ := hb.cells
 clear hb
 go_enter Tryz.func20, Tryz.ntmps20
 go_wp2_with (first | (go_at_call 22; refine (Cal.isDay_any _ _).mono ?_; rintro e w' ⟨rfl, h'⟩; subst w') | (go_at_call 21; refine (when_any _ _ _).mono ?_; rintro e w' ⟨rfl, h'⟩; subst w'))
 go_ret
 exact ⟨rfl, Below.refl _ _⟩
set_option maxRecDepth 100000 in
set_option maxHeartbeats 1000000 in
theorem chk2 (b : Nat) (c : Co) (s : Ly) (w : World) (hb : CBox w b c s) (hc : CameC w s c) :
 Calls Tryz.prog 23 #[.pointer (some ⟨b, 0, none⟩)] w fun e w' => e = .returned (.int .i64 (ifE (decide (19 < c.lns.length ∨ 20 < c.prs.length)) 2)) ∧ Below w.heap.size w w' := by
 obtain ⟨_, _, _, _, k4, _, k6, _⟩ := hb.cells
 rw [hc.nl, hc.np]
 clear hb hc
 by_cases h1 : 19 < s.nl
 ·have h1' : decide ((19 : Int) < (s.nl : Int)) = true := decide_eq_true (by omega)
  have HD : Hid (decide (19 < s.nl ∨ 20 < s.np) = true) := decide_eq_true (.inl h1)
  clear h1
  go_enter Tryz.func23, Tryz.ntmps23
  go_wp2_with (first | (go_at_call 21; refine (when_any _ _ _).mono ?_; rintro e w' ⟨rfl, h'⟩; subst w'))
  go_ret
  exact ⟨by rw [HD.out]; rfl, Below.refl _ _⟩
 ·have h1' : decide ((19 : Int) < (s.nl : Int)) = false := decide_eq_false (by omega)
  by_cases h2 : 20 < s.np
  ·have h2' : decide ((20 : Int) < (s.np : Int)) = true := decide_eq_true (by omega)
   have HD : Hid (decide (19 < s.nl ∨ 20 < s.np) = true) := decide_eq_true (.inr h2)
   clear h1 h2
   go_enter Tryz.func23, Tryz.ntmps23
   go_wp2_with (first | (go_at_call 21; refine (when_any _ _ _).mono ?_; rintro e w' ⟨rfl, h'⟩; subst w'))
   go_ret
   exact ⟨by rw [HD.out]; rfl, Below.refl _ _⟩
  ·have h2' : decide ((20 : Int) < (s.np : Int)) = false := decide_eq_false (by omega)
   have HD : Hid (decide (19 < s.nl ∨ 20 < s.np) = false) := decide_eq_false (by omega)
   clear h1 h2
   go_enter Tryz.func23, Tryz.ntmps23
   go_wp2_with (first | (go_at_call 21; refine (when_any _ _ _).mono ?_; rintro e w' ⟨rfl, h'⟩; subst w'))
   go_ret
   exact ⟨by rw [HD.out]; rfl, Below.refl _ _⟩
set_option maxRecDepth 100000 in
set_option maxHeartbeats 1000000 in
theorem chk3 (b : Nat) (c : Co) (s : Ly) (w : World) (hv : Vs w) (hb : CBox w b c s) (hc : CameC w s c) :
 Calls Tryz.prog 24 #[.pointer (some ⟨b, 0, none⟩)] w fun e w' => e = .returned (.int .i64 (linesE c.lns)) ∧ Below w.heap.size w w' := by
 obtain ⟨_, _, _, _, k4, _⟩ := hb.cells
 have HC := Lib.hid (check_lines s.al s.nl s.cl c.lns w hv.shp hc.l hc.nl hc.ml)
 clear hb hc hv
 go_enter Tryz.func24, Tryz.ntmps24
 go_wp2_with fail
 refine HC.out.mono ?_
 rintro e w1 ⟨rfl, hb1⟩
 have HB1 := Lib.hid hb1
 clear hb1
 go_wp2_with fail
 go_ret
 exact ⟨rfl, HB1.out⟩
set_option maxRecDepth 100000 in
set_option maxHeartbeats 1000000 in
theorem isCash_any (k x n : Int) (t u : ByteArray) (a : Option Addr) (m cx : Nat) (w : World) :
 Calls Tryz.prog 28 #[.agg #[.int .i64 k, .string t, .int .i64 x, .int .i64 n, .string u, .slice a m cx]] w fun e w' => e = .returned (.bool (sameT t cashT)) ∧ Below w.heap.size w w' := by
 have HB0 := Lib.hid (kbelow_box w (.cells #[.int .i64 k, .string t, .int .i64 x, .int .i64 n, .string u, .slice a m cx] 73))
 have HR : Hid (sameT t cashT = (t.toList == [99, 97, 115, 104])) := by
  unfold Hid sameT
  rw [show cashT.toList = [99, 97, 115, 104] from by decide +kernel]
 rw [HR.out]
 go_enter Tryz.func28, Tryz.ntmps28
 go_wp2_with fail
 go_ret
 exact ⟨kret_bool (by first | rfl | simp [ByteArray.toList_eq]), HB0.out⟩
set_option maxRecDepth 100000 in
set_option maxHeartbeats 1000000 in
theorem chk4 (b : Nat) (c : Co) (s : Ly) (w : World) (hb : CBox w b c s) (hc : CameC w s c) :
 Calls Tryz.prog 26 #[.pointer (some ⟨b, 0, none⟩)] w fun e w' => e = .returned (.int .i64 (ifE (anyN (fun j => sameT (lnth c.lns j).name cashT) c.lns.length) 4)) ∧ Below w.heap.size w w' := by
 obtain ⟨_, _, _, _, k4, _⟩ := hb.cells
 have HC := Lib.hid (anyLn 28 (fun j => sameT (lnth c.lns j).name cashT) s.al s.nl s.cl c.lns w hc.l hc.nl hc.ml (fun _ _ => by simp [go_sem]) (fun j hj w' ax cx hw hp => isCash_any _ _ _ _ _ _ _ _ _))
 rw [hc.nl]
 clear hb hc
 obtain ⟨x, hx⟩ : ∃ x, anyN (fun j => sameT (lnth c.lns j).name cashT) s.nl = x := ⟨_, rfl⟩
 rw [hx] at HC ⊢
 clear hx
 go_enter Tryz.func26, Tryz.ntmps26
 go_wp2_with fail
 refine HC.out.mono ?_
 rintro e w1 ⟨rfl, hb1⟩
 have HB1 := Lib.hid hb1
 clear hb1
 go_wp2_with (first | (go_at_call 21; refine (when_any _ _ _).mono ?_; rintro e w' ⟨rfl, h'⟩; subst w'))
 go_ret
 exact ⟨rfl, HB1.out⟩
set_option maxRecDepth 100000 in
set_option maxHeartbeats 1000000 in
theorem chk5 (F : Fs) (b : Nat) (c : Co) (s : Ly) (w : World) (hv : Vs w) (hb : CBox w b c s) (hc : CameC w s c) :
 Calls Tryz.prog 29 #[.pointer (some ⟨b, 0, none⟩)] w fun e w' => e = .returned (.int .i64 (persE F c)) ∧ Below w.heap.size w w' := by
 have HX := Lib.hid hb
 have HC := Lib.hid (checkPersons_any F c s w hv hc)
 clear hb hc hv
 go_enter Tryz.func29, Tryz.ntmps29
 go_wp2_with (refine wpList_load_row rfl 33 (.tmp 0) rfl b rfl 33 (coA c s) (0, 0) _ HX.out Tryz.underlying33 rfl (coInfo c s) ?_)
 refine HC.out.mono ?_
 rintro e w1 ⟨rfl, hb1⟩
 have HB1 := Lib.hid hb1
 clear hb1
 go_wp2_with fail
 go_ret
 exact ⟨rfl, HB1.out⟩
set_option maxRecDepth 100000 in
set_option maxHeartbeats 1000000 in
theorem chk6 (F : Fs) (b : Nat) (c : Co) (s : Ly) (w : World)  (hb : CBox w b c s) (hc : CameC w s c) :
 Calls Tryz.prog 31 #[.pointer (some ⟨b, 0, none⟩)] w fun e w' => e = .returned (.int .i64 (fstL (runL F c))) ∧ Below w.heap.size w w' := by
 have HX := Lib.hid hb
 have HC := Lib.hid (checkRun_any F c s w hc.wf.2.2.2.2.2.2)
 clear hb hc
 go_enter Tryz.func31, Tryz.ntmps31
 go_wp2_with (refine wpList_load_row rfl 33 (.tmp 0) rfl b rfl 33 (coA c s) (0, 0) _ HX.out Tryz.underlying33 rfl (coInfo c s) ?_)
 refine HC.out.mono ?_
 rintro e w1 ⟨rfl, hb1⟩
 have HB1 := Lib.hid hb1
 clear hb1
 go_wp2_with fail
 go_ret
 exact ⟨rfl, HB1.out⟩
set_option maxRecDepth 100000 in
set_option maxHeartbeats 1000000 in
theorem chk7  (b : Nat) (c : Co) (s : Ly) (w : World)  (hb : CBox w b c s) (hc : CameC w s c) :
 Calls Tryz.prog 33 #[.pointer (some ⟨b, 0, none⟩)] w fun e w' => e = .returned (.int .i64 (fstL (slpL c))) ∧ Below w.heap.size w w' := by
 have HX := Lib.hid hb
 have HC := Lib.hid (checkSlips_any c s w hc)
 clear hb hc
 go_enter Tryz.func33, Tryz.ntmps33
 go_wp2_with (refine wpList_load_row rfl 33 (.tmp 0) rfl b rfl 33 (coA c s) (0, 0) _ HX.out Tryz.underlying33 rfl (coInfo c s) ?_)
 refine HC.out.mono ?_
 rintro e w1 ⟨rfl, hb1⟩
 have HB1 := Lib.hid hb1
 clear hb1
 go_wp2_with fail
 go_ret
 exact ⟨rfl, HB1.out⟩
set_option maxRecDepth 100000 in
set_option maxHeartbeats 1000000 in
theorem chk8  (b : Nat) (c : Co) (s : Ly) (w : World)  (hb : CBox w b c s) (hc : CameC w s c) :
 Calls Tryz.prog 35 #[.pointer (some ⟨b, 0, none⟩)] w fun e w' => e = .returned (.int .i64 (fstL (jrnL c))) ∧ Below w.heap.size w w' := by
 have HX := Lib.hid hb
 have HC := Lib.hid (checkJournal_any c s w hc)
 clear hb hc
 go_enter Tryz.func35, Tryz.ntmps35
 go_wp2_with (refine wpList_load_row rfl 33 (.tmp 0) rfl b rfl 33 (coA c s) (0, 0) _ HX.out Tryz.underlying33 rfl (coInfo c s) ?_)
 refine HC.out.mono ?_
 rintro e w1 ⟨rfl, hb1⟩
 have HB1 := Lib.hid hb1
 clear hb1
 go_wp2_with fail
 go_ret
 exact ⟨rfl, HB1.out⟩
set_option maxRecDepth 100000 in
set_option maxHeartbeats 1000000 in
theorem houseCheck_any (F : Fs) (c : Co) (s : Ly) (w : World) (hv : Vs w) (hc : CameC w s c) :
 Calls Tryz.prog 8 #[.agg (coA c s)] w fun e w' => e = .returned (.int .i64 (coE F c)) ∧ Below w.heap.size w w' := by
 have hx0 := CBox.made w c s
 have h1 := kbelow_box (w.alloc (.cells (coA c s) 33)) (.cells #[.func (.func 20) #[] #[.pointer (some ⟨w.heap.size, 0, none⟩)], .func (.func 23) #[] #[.pointer (some ⟨w.heap.size, 0, none⟩)], .func (.func 24) #[] #[.pointer (some ⟨w.heap.size, 0, none⟩)], .func (.func 26) #[] #[.pointer (some ⟨w.heap.size, 0, none⟩)], .func (.func 29) #[] #[.pointer (some ⟨w.heap.size, 0, none⟩)], .func (.func 31) #[] #[.pointer (some ⟨w.heap.size, 0, none⟩)], .func (.func 33) #[] #[.pointer (some ⟨w.heap.size, 0, none⟩)], .func (.func 35) #[] #[.pointer (some ⟨w.heap.size, 0, none⟩)]] 66)
 have hx := hx0.below h1 hx0.lt
 have hb0 := (kbelow_box w (.cells (coA c s) 33)).trans (h1.mono (by simp))
 have HB := Lib.hid hb0
 have hcc := hc.below hb0
 have hvv := hv.below hb0
 have HK := Lib.hid (first_any (w.heap.size + 1) 8 8 (fF [20, 23, 24, 26, 29, 31, 33, 35]) (fun _ => #[.pointer (some ⟨w.heap.size, 0, none⟩)]) (fun j => (coEs F c).getD j 0) ((w.alloc (.cells (coA c s) 33)).alloc (.cells #[.func (.func 20) #[] #[.pointer (some ⟨w.heap.size, 0, none⟩)], .func (.func 23) #[] #[.pointer (some ⟨w.heap.size, 0, none⟩)], .func (.func 24) #[] #[.pointer (some ⟨w.heap.size, 0, none⟩)], .func (.func 26) #[] #[.pointer (some ⟨w.heap.size, 0, none⟩)], .func (.func 29) #[] #[.pointer (some ⟨w.heap.size, 0, none⟩)], .func (.func 31) #[] #[.pointer (some ⟨w.heap.size, 0, none⟩)], .func (.func 33) #[] #[.pointer (some ⟨w.heap.size, 0, none⟩)], .func (.func 35) #[] #[.pointer (some ⟨w.heap.size, 0, none⟩)]] 66)) (by omega)
  (fun j hj => by
   match j, hj with
   | 0, _ | 1, _ | 2, _ | 3, _ | 4, _ | 5, _ | 6, _ | 7, _ => exact row_at _ _ _ _ _ _ (by simp only [World.size_alloc]) rfl
   | j + 8, h => omega)
  (fun j hj w => by
   match j, hj with
   | 0, _ | 1, _ | 2, _ | 3, _ | 4, _ | 5, _ | 6, _ | 7, _ => simp [fF, go_sem]
   | j + 8, h => omega)
  (fun j hj _ w' hb => by
   match j, hj with
   | 0, _ => exact chk1 _ c s w' (hx.below hb hx.lt)
   | 1, _ => exact chk2 _ c s w' (hx.below hb hx.lt) (hcc.below hb)
   | 2, _ => exact chk3 _ c s w' (hvv.below hb) (hx.below hb hx.lt) (hcc.below hb)
   | 3, _ => exact chk4 _ c s w' (hx.below hb hx.lt) (hcc.below hb)
   | 4, _ => exact chk5 F _ c s w' (hvv.below hb) (hx.below hb hx.lt) (hcc.below hb)
   | 5, _ => exact chk6 F _ c s w' (hx.below hb hx.lt) (hcc.below hb)
   | 6, _ => exact chk7 _ c s w' (hx.below hb hx.lt) (hcc.below hb)
   | 7, _ => exact chk8 _ c s w' (hx.below hb hx.lt) (hcc.below hb)
   | j + 8, h => omega))
 clear hx0 h1 hx hb0 hcc hvv hc hv
 go_enter Tryz.func8, Tryz.ntmps8
 go_wp2_with fail
 refine HK.out.mono ?_
 rintro e w1 ⟨rfl, hb1⟩
 have HB1 := Lib.hid (HB.out.trans (hb1.mono HB.out.size))
 clear hb1
 go_wp2_with fail
 go_ret
 exact ⟨rfl, HB1.out⟩
end Go.Proofs.YtkalfdjmklakdaaGreatDoor
