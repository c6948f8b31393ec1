/-
  Promise J3: the reference's RunProgram: its pile and what lines came to, in memory; a run of the machine has one end.
  Promise J3: the walk of the reference's RunProgram.
-/
import Derived.Test.YtmlpedgcpffpnaaGreatDoorKR
import Derived.Test.YtmlpedgcpffpnaaGreatDoorKN
import Derived.Test.YtmlpedgcpffpnaaGreatDoorKO
import Derived.Deep.CutRange
set_option linter.unusedSimpArgs false
namespace Go.Proofs.YtmlpedgcpffpnaaGreatDoor
open Go.RowKit
def pileL (m : Nat) (P : Nat → Int) : List Int := (List.range m).map P
theorem pileL_len (m : Nat) (P : Nat → Int) : (pileL m P).length = m := by simp [pileL]
theorem pileL_push (m : Nat) (P : Nat → Int) (r : Int) : pileL m P ++ [r] = pileL (m + 1) (updF P m r) := by
 unfold pileL
 rw [List.range_succ, List.map_append]
 congr 1
 ·apply List.map_congr_left
  intro j hj
  have := List.mem_range.1 hj
  unfold updF
  rw [if_neg (by omega)]
 ·simp [updF]
theorem pileL_at (m : Nat) (P : Nat → Int) {j : Nat} (hj : j < m) : (pileL m P)[j]? = some (P j) := by simp [pileL, hj]
theorem pileL_take (m m' : Nat) (P : Nat → Int) (h : m' ≤ m) : (pileL m P).take m' = pileL m' P := by
 unfold pileL
 rw [← List.map_take, List.take_range, Nat.min_eq_left h]
structure RPt (w : World) (B vb L : Nat) (V : Nat → Int) (v : Value) (m : Nat) (P : Nat → Int) : Prop where
 grow : Grow w B v (pileL m P)
 vals : ∀ j, j < L → w.cell? ⟨vb, j, none⟩ = some (.int .i64 (V j)) ∧ w.frozen? ⟨vb, j, none⟩ = false
 lv : vb < w.heap.size
 bv : B ≤ vb
 ap : v.ownBlock ≠ some vb
section
variable {w w' : World} {B vb L : Nat} {V : Nat → Int} {v : Value} {m : Nat} {P : Nat → Int}
theorem RPt.below (h : RPt w B vb L V v m P) (hb : Below w.heap.size w w') : RPt w' B vb L V v m P :=
 { h with
   grow := World.ownsRow.kept h.grow (row := none) ⟨hb.os, hb.tape, hb.output, hb.size, fun k hk _ => hb.block k hk⟩ (by
    cases hv : v.ownBlock with
    | none => exact .inl rfl
    | some k => exact .inr (by simp))
   vals := fun j hj => ⟨(hb.cell (p := ⟨vb, j, none⟩) h.lv).trans (h.vals j hj).1, (hb.frozen (p := ⟨vb, j, none⟩) h.lv).trans (h.vals j hj).2⟩
   lv := Nat.lt_of_lt_of_le h.lv hb.size }
theorem RPt.keep (h : RPt w B vb L V v m P) {z : Nat} (hz : z < L) (x : Int) : RPt (w.setCell ⟨vb, z, none⟩ (.int .i64 x)) B vb L (updF V z x) v m P :=
 { h with
   grow := World.ownsRow.kept h.grow (row := some vb) ⟨rfl, rfl, rfl, by simp, fun k _ hne => Below.heap_setCell w ⟨vb, z, none⟩ _ k (fun e => hne (by rw [e]))⟩ (.inr h.ap)
   vals := fun j hj => by
    rw [put_cell (h.vals z hz).1, World.frozen?_setCell]
    refine ⟨?_, (h.vals j hj).2⟩
    unfold updF
    split
    ·rfl
    ·exact (h.vals j hj).1
   lv := by simpa using h.lv }
theorem RPt.open (h : RPt w B vb L V v m P) (h0 : 0 < m) : ∃ g c, v = .slice (some ⟨g, 0, none⟩) m c ∧ m ≤ c ∧ (∀ j, j < m → w.cell? ⟨g, j, none⟩ = some (.int .i64 (P j))) ∧ ∀ m', m' ≤ m → RPt w B vb L V (.slice (some ⟨g, 0, none⟩) m' c) m' P := by
 have hh := h.grow
 have hg := h.grow
 unfold Grow at hh hg
 rw [pileL_len] at hh hg
 obtain ⟨hlen, ⟨_, h2⟩ | ⟨g, c, cur, rfl, e1, e2, e3, e4, e5, e6⟩⟩ := hh
 ·omega
 ·refine ⟨g, c, rfl, e3, fun j hj => ?_, fun m' hm' => ⟨?_, h.vals, h.lv, h.bv, h.ap⟩⟩
  ·have := World.ownsRow.cells hg (g := g) rfl j (.int .i64 (P j)) (by rw [List.getElem?_map, pileL_at m P hj]; rfl)
   rwa [Addr.add_lit, Nat.zero_add] at this
  ·unfold Grow
   rw [pileL_len]
   refine ⟨by simp [pileL], .inr ⟨g, c, cur, rfl, e1, e2, by omega, e4, e5, ?_⟩⟩
   rw [Nat.mul_one] at e6 ⊢
   rw [← pileL_take m m' P hm', List.map_take, ← e6, List.take_take, Nat.min_eq_left hm']
theorem RPt.app (h : RPt w B vb L V v m P) {v' : Value} {r : Int} (hg : Grow w' B v' (pileL m P ++ [r])) (hw : w.grownBy w' v.ownBlock) (hv : v'.ownBlock = v.ownBlock ∨ ∃ g, v'.ownBlock = some g ∧ w.heap.size ≤ g) : RPt w' B vb L V v' (m + 1) (updF P m r) := by
 have hblk : w'.heap[vb]? = w.heap[vb]? := hw.block vb h.lv (fun e => h.ap e.symm)
 refine ⟨by rw [pileL_push] at hg; exact hg, fun j hj => ⟨(World.cell?_of_block (a := ⟨vb, j, none⟩) hblk).trans (h.vals j hj).1, (World.frozen?_of_block (a := ⟨vb, j, none⟩) hblk).trans (h.vals j hj).2⟩, Nat.lt_of_lt_of_le h.lv hw.size, h.bv, ?_⟩
 rcases hv with e | ⟨g, e, hge⟩
 ·rw [e]; exact h.ap
 ·rw [e]
  intro e2
  injection e2 with e2
  have := h.lv
  omega
end
theorem MReach.head {kn : Kn} {l : List Bk} {x y : MS} (h : MReach kn l x y) : ∀ {z}, x.at_ < l.length → mstep kn (bnth l x.at_) x = some z → x = y ∨ MReach kn l z y := by
 induction h with
 | refl => intro z _ _; exact .inl rfl
 | step k1 k2 k3 ik =>
   intro z hz1 hz2
   rcases ik hz1 hz2 with e | e
   ·subst e
    rw [hz2] at k3
    injection k3 with k3
    subst k3
    exact .inr (.refl _)
   ·exact .inr (.step e k2 k3)
theorem MReach.line {kn : Kn} {l : List Bk} {a s : MS} (h : MReach kn l a s) : ∀ {t : MS}, MReach kn l a t → MReach kn l s t ∨ MReach kn l t s := by
 induction h with
 | refl => intro t ht; exact .inl ht
 | step h1 h2 h3 ih =>
   intro t ht
   rcases ih ht with h | h
   ·rcases h.head h2 h3 with e | e
    ·subst e; exact .inr (.step (.refl _) h2 h3)
    ·exact .inl e
   ·exact .inr (h.step h2 h3)
def Fin (kn : Kn) (l : List Bk) (s : MS) : Prop := s.at_ = l.length ∨ (s.at_ < l.length ∧ mstep kn (bnth l s.at_) s = none)
theorem MReach.fin {kn : Kn} {l : List Bk} {s t : MS} (h : MReach kn l s t) (hf : Fin kn l s) : t = s := by
 induction h with
 | refl => rfl
 | step k1 k2 k3 ik =>
   have e := ik
   subst e
   rcases hf with h | ⟨_, h⟩
   ·omega
   ·rw [h] at k3; cases k3
theorem MReach.one {kn : Kn} {l : List Bk} {a s t : MS} (hs : MReach kn l a s) (ht : MReach kn l a t) (fs : Fin kn l s) (ft : Fin kn l t) : t = s := by
 rcases hs.line ht with h | h
 ·exact h.fin fs
 ·exact (h.fin ft).symm
end Go.Proofs.YtmlpedgcpffpnaaGreatDoor
set_option linter.unusedSimpArgs false
namespace Go.Proofs.YtmlpedgcpffpnaaGreatDoor
open Go.RowKit
theorem make_vls (L : Nat) (h : L ≤ 40) (w : World) : (Instr.makeSlice 35 (.int .i64 (L : Int)) (.int .i64 (L : Int))).run Tryz.prog w = .ok (.slice (some ⟨w.heap.size, 0, none⟩) L L) (w.alloc (.cells (madeCells #[.int .i64 0] L) 3)) := make_vals L h w
theorem mul_in2 {v n : Int} (hv : -1000000000000 ≤ v ∧ v ≤ 1000000000000) (hn : 0 ≤ n ∧ n ≤ 1000000) : -1000000000000000000 ≤ v * n ∧ v * n ≤ 1000000000000000000 := by
 have e1 := Int.mul_le_mul_of_nonneg_right hv.2 hn.1
 have e2 := Int.mul_le_mul_of_nonneg_right hv.1 hn.1
 omega
def RunP (kn : Kn) (l : List Bk) (L : Nat) (w : World) (e : Ending) (w' : World) : Prop := Below w.heap.size w w' ∧ ∃ s, MReach kn l ms0 s ∧ Inv l L s ∧
    ((s.at_ = l.length ∧ ∃ vb, e = .returned (.tuple #[.slice (some ⟨vb, 0, none⟩) L L, .int .i64 0, .int .i64 0]) ∧ w.heap.size ≤ vb ∧ vb < w'.heap.size ∧ ∀ j, j < L → w'.cell? ⟨vb, j, none⟩ = some (.int .i64 (s.V j))) ∨
     (s.at_ < l.length ∧ mstep kn (bnth l s.at_) s = none ∧ e = .returned (.tuple #[.slice none 0 0, .int .i64 (s.at_ : Int), .int .i64 3])))
set_option maxRecDepth 100000 in
set_option maxHeartbeats 8000000 in
theorem runProgram_ref (a : Option Addr) (n cap : Nat) (l : List Bk) (L : Nat) (a1 a2 a3 : Option Addr) (n1 n2 n3 c1 c2 c3 : Nat) (kn : Kn) (w : World) (hl : CameB w a l) (hn : l.length = n) (hk : CameK w a1 a2 a3 kn) (h1 : kn.ins.length = n1) (h2 : kn.tbs.length = n2) (h3 : kn.yrs.length = n3) (hz : ∀ j, j < n → I64 (bnth l j).rate) (hp : Pass l (L : Int) n1 n2 n3) (hr : KnR kn) :
 Calls Tryz.prog 10 #[.slice a n cap, .int .i64 (L : Int), .agg #[.slice a1 n1 c1, .slice a2 n2 c2, .slice a3 n3 c3]] w fun e w' => RunP kn l L w e w' := by
 have HB0 := Lib.hid (kbelow_box w (.cells #[.slice a1 n1 c1, .slice a2 n2 c2, .slice a3 n3 c3] 26))
 have HKB := Lib.hid (Cbx.made w [.slice a1 n1 c1, .slice a2 n2 c2, .slice a3 n3 c3] 26)
 have HL := Lib.hid hl
 have HN := Lib.hid hn
 have HK := Lib.hid hk
 have HZ := Lib.hid hz
 have HP := Lib.hid hp
 have HKR := Lib.hid hr
 have HLN := Lib.hid (And.intro h1 (And.intro h2 h3))
 have hL40 : L ≤ 40 := by have := hp.l40; omega
 have hn1 : n ≤ 10000 := by have := hp.many; omega
 clear hl hn hk h1 h2 h3 hz hp hr
 have hmk := make_vls L hL40 (w.alloc (.cells #[.slice a1 n1 c1, .slice a2 n2 c2, .slice a3 n3 c3] 26))
 go_enter Tryz.func10, Tryz.ntmps10
 go_wp2_with fail
 clear hmk
 have s1 : (w.alloc (.cells #[.slice a1 n1 c1, .slice a2 n2 c2, .slice a3 n3 c3] 26)).heap.size = w.heap.size + 1 := by simp
 have hrow := RowI.made (w.alloc (.cells #[.slice a1 n1 c1, .slice a2 n2 c2, .slice a3 n3 c3] 26)) L 3
 have hbm := kbelow_box (w.alloc (.cells #[.slice a1 n1 c1, .slice a2 n2 c2, .slice a3 n3 c3] 26)) (.cells (madeCells #[.int .i64 0] L) 3)
 rw [s1] at hrow hbm
 have HKB1 := Lib.hid (HKB.out.below (by rw [s1]; exact hbm) HKB.out.lt)
 have HBW : Hid (Below w.heap.size w ((w.alloc (.cells #[.slice a1 n1 c1, .slice a2 n2 c2, .slice a3 n3 c3] 26)).alloc (.cells (madeCells #[.int .i64 0] L) 3))) := HB0.out.trans (hbm.mono (by omega))
 have HR0 := Lib.hid hrow
 clear hrow hbm s1 HB0 HKB
 generalize ((w.alloc (.cells #[.slice a1 n1 c1, .slice a2 n2 c2, .slice a3 n3 c3] 26)).alloc (.cells (madeCells #[.int .i64 0] L) 3)) = W1 at HKB1 HBW HR0 ⊢
 obtain ⟨vb, hvb⟩ : ∃ vb, w.heap.size + 1 = vb := ⟨_, rfl⟩
 rw [hvb] at HR0 ⊢
 obtain ⟨B, hB⟩ : ∃ B, w.heap.size = B := ⟨_, rfl⟩
 have HVB : Hid (w.heap.size = B ∧ B < vb ∧ B < W1.heap.size) := ⟨hB, by omega, by have := HKB1.out.lt; omega⟩
 rw [hB] at HKB1 ⊢
 clear hvb hB
 have HRP : Hid (RPt W1 vb vb L ms0.V (.slice none 0 0) ms0.m ms0.P) := Lib.hid ⟨Grow.nil _ _, HR0.out.2, HR0.out.1, Nat.le_refl _, by simp [Value.ownBlock]⟩
 clear HR0
 go_loopw [10, 11] (fun v i wr => ∃ s, MReach kn l ms0 s ∧ Inv l L s ∧ i = .int .i64 s.at_ ∧ RPt wr vb vb L s.V v s.m s.P ∧ Below vb W1 wr) (fun _ i _ => n - (intOf i).toNat)
 case atStart => exact ⟨ms0, .refl _, inv0 l L, rfl, HRP.out, Below.refl _ _⟩
 case round =>
  clear HRP
  obtain ⟨s, hre, hin, rfl, hrp, hb⟩ := hrel
  have HRE := Lib.hid hre
  have HIN := Lib.hid hin
  have HRP := Lib.hid hrp
  have HBR := Lib.hid hb
  have HWR : Hid (Below w.heap.size w wr) := HBW.out.trans (hb.mono (by have := HVB.out; omega))
  have HKR1 := Lib.hid (HKB1.out.to (hb.block B HVB.out.2.1))
  clear hre hin hrp hb
  by_cases hlt : s.at_ < n
  ·have hltI : (s.at_ : Int) < (n : Int) := by omega
   have hltL : s.at_ < l.length := by rw [HN.out]; exact hlt
   obtain ⟨b, off, rfl, hcell⟩ := HL.out.open HN.out (by omega)
   have HOC : Hid (∀ w', Below w.heap.size w w' → w'.cell? ⟨b, off + s.at_ * 2, none⟩ = some (.int .i64 (bnth l s.at_).frm) ∧ w'.cell? ⟨b, off + s.at_ * 2 + 1, none⟩ = some (.int .i64 (bnth l s.at_).rate)) := fun w' hb => hcell w' hb s.at_ hlt
   have hok := stpE_ok (firstE_zeroK2 HP.out.steps s.at_ hltL)
   have hroom := inv_room HP.out HIN.out hltL
   have HFAR := Lib.hid (fits_far hok.2.1 hltL)
   obtain ⟨q, hq⟩ : ∃ q : Nat, (bnth l s.at_).frm = (q : Int) := ⟨(bnth l s.at_).frm.toNat, by omega⟩
   obtain ⟨z, hz⟩ : ∃ z : Int, (bnth l s.at_).rate = z := ⟨_, rfl⟩
   have hqn : (bnth l s.at_).frm.toNat = q := by omega
   have hqr := hok.1
   have hf := hok.2.1
   rw [hq, hz] at HOC
   rw [hq, hz] at HFAR
   rw [hq] at hqr
   rw [hq, hz] at hf
   rw [hqn] at hroom
   have HIZ : Hid (I64 z) := by unfold Hid; rw [← hz]; exact HZ.out s.at_ hlt
   have HF := Lib.hid hf
   have HQZ := Lib.hid (And.intro hq (And.intro hqn hz))
   have hq1 : 1 ≤ q := by omega
   have hq16 : q ≤ 16 := by omega
   obtain ⟨o0, o1⟩ := HOC.out wr HWR.out
   clear hok hq hz hqn hqr hf hcell
   have r0 := cell_regrown o0
   have r1 := cell_regrown o1
   go_wp2_with fail
   refine wp_region_quiet_below (by kernel_rfl) (by kernel_rfl) ?_
   repeat (go_big_quiet_step (fail))
   refine wpQuiet_nil ?_
   intro _ hw'
   obtain ⟨⟨dq, osq⟩, hw''⟩ := hw'
   subst hw''
   have HB2 := Lib.hid (below_regrown wr dq osq)
   clear r0 r1 o0 o1
   generalize Go.Sort.grow (redrawn wr dq) osq = W2 at HB2 ⊢
   have HTKC := Lib.hid (fun W => Takes_ref q hq1 hq16 W)
   have HWR2 := Lib.hid (HWR.out.trans (HB2.out.mono HWR.out.size))
   have HRP2 := Lib.hid (HRP.out.below HB2.out)
   have htb := takes_bd (q : Int)
   obtain ⟨tk, htk⟩ : ∃ tk : Nat, takesOf (q : Int) = (tk : Int) := ⟨(takesOf (q : Int)).toNat, by omega⟩
   rw [htk] at hroom HTKC htb
   go_upto_if 37 with fail
   refine (HTKC.out _).mono ?_
   rintro e W3 ⟨rfl, hb3⟩
   have HRP3 := Lib.hid (HRP2.out.below hb3)
   have HB3 := Lib.hid (HB2.out.trans (hb3.mono HB2.out.size))
   have HLV : Hid (vb ≤ wr.heap.size) := Nat.le_of_lt HRP.out.lv
   clear hb3 HRP2 HB2 HRP
   go_upto_if 37 with fail
   obtain ⟨A0, hA0⟩ : ∃ x : Int, opA q s = x := ⟨_, rfl⟩
   have HWR3 := Lib.hid (HWR.out.trans (HB3.out.mono HWR.out.size))
   have HBR3 : Hid (Below vb W1 W3) := HBR.out.trans (HB3.out.mono HLV.out)
   go_cut [10, 14, 15] from 19 to 191 (fun v x y wx => x = .int .i64 A0 ∧ (∃ B0, y = .int .i64 B0 ∧ (tk = 2 → B0 = s.P (s.m - 1))) ∧ RPt wx vb vb L s.V v (s.m - tk) s.P ∧ Below W3.heap.size W3 wx)
   case first =>
    by_cases ht0 : tk = 0
    ·subst ht0
     have hA : A0 = 0 := by rw [← hA0]; unfold opA tkN; rw [htk]; rfl
     subst hA
     go_wp2_with fail
     go_meet
     exact ⟨rfl, ⟨0, rfl, fun h => by cases h⟩, HRP3.out, Below.refl _ _⟩
    ·have htI : (0 : Int) < (tk : Int) := by omega
     have hm0 : 0 < s.m := by omega
     obtain ⟨g, c, rfl, hmc, hcs, hpop⟩ := HRP3.out.open hm0
     obtain ⟨mr, hmr⟩ : ∃ x : Nat, s.m - tk = x := ⟨_, rfl⟩
     obtain ⟨m1, hm1⟩ : ∃ x : Nat, s.m - 1 = x := ⟨_, rfl⟩
     obtain ⟨m, hm⟩ : ∃ x : Nat, s.m = x := ⟨_, rfl⟩
     have hmb : m ≤ 20000 := by
      have h5 := ckM_20000 HP.out l.length (Nat.le_refl _)
      have h6 := lays_bd (q : Int)
      have h7 := HN.out
      omega
     have hA : A0 = s.P mr := by rw [← hA0]; unfold opA tkN; rw [htk, Int.toNat_natCast, if_neg ht0, hmr]
     have hsub : IntKind.i64.wrap ((m : Int) - (tk : Int)) = (mr : Int) := by rw [show (m : Int) - (tk : Int) = (mr : Int) by omega]; exact IntWalk.i64_in _ (by omega)
     have hsub1 : IntKind.i64.wrap ((m : Int) - 1) = (m1 : Int) := by rw [show (m : Int) - 1 = (m1 : Int) by omega]; exact IntWalk.i64_in _ (by omega)
     have hmrI : (mr : Int) < (m : Int) := by omega
     have hm1I : (m1 : Int) < (m : Int) := by omega
     have HPOP := Lib.hid (hpop mr (by omega))
     have HCSP : Hid (∀ wx, Below W3.heap.size W3 wx → wx.cell? ⟨g, mr, none⟩ = some (.int .i64 (s.P mr)) ∧ wx.cell? ⟨g, m1, none⟩ = some (.int .i64 (s.P m1))) := fun wx hb => ⟨(hb.cell (blt_of_cell (hcs mr (by omega)))).trans (hcs mr (by omega)), (hb.cell (blt_of_cell (hcs m1 (by omega)))).trans (hcs m1 (by omega))⟩
     have HM1 := Lib.hid hm1
     have HMR := Lib.hid hmr
     rw [hm]
     have hmrc : (mr : Int) ≤ (c : Int) := by omega
     have hmrcN : mr ≤ c := by omega
     clear hcs hpop hm1 hmr hm HRP3 ht0 hmc
     go_wp2_with fail
     refine (HTKC.out _).mono ?_
     rintro e W4 ⟨rfl, hb4⟩
     have HB4 := Lib.hid hb4
     obtain ⟨y0, y1⟩ := HCSP.out _ hb4
     clear hb4
     go_wp2_with fail
     refine (HTKC.out _).mono ?_
     rintro e W5 ⟨rfl, hb5⟩
     have HB5 := Lib.hid (HB4.out.trans (hb5.mono HB4.out.size))
     clear hb5 y0 y1
     go_wp2_with fail
     go_meet
     exact ⟨by rw [hA], ⟨_, rfl, fun _ => by rw [HM1.out]⟩, by rw [HMR.out]; exact HPOP.out.below HB5.out, HB5.out⟩
   case rest =>
    obtain ⟨rfl, ⟨B0, rfl, hB0⟩, hrp, hb⟩ := hcut
    rename World => W6
    have HRP6 := Lib.hid hrp
    have HWR6 := Lib.hid (HWR3.out.trans (hb.mono HWR3.out.size))
    have HBR6 : Hid (Below vb W1 W6) := HBR3.out.trans (hb.mono (Nat.le_of_lt HRP3.out.lv))
    have HKR6 := Lib.hid (HKR1.out.below (HB3.out.trans (hb.mono HB3.out.size)) HKR1.out.lt)
    have htb1 : tk ≤ s.m := by omega
    have HTK := Lib.hid htk
    have HTB := Lib.hid htb1
    have hOB : tk = 2 → opB q s = B0 := fun h => by
     unfold opB tkN
     rw [HTK.out, Int.toNat_natCast, if_pos h, hB0 h, show s.m - 2 + 1 = s.m - 1 by omega]
    have hMA : monB A0 = true := by
     rw [← hA0]
     unfold opA
     split
     ·exact mon_zero
     ·rename_i h9
      unfold tkN at h9 ⊢
      rw [HTK.out, Int.toNat_natCast] at h9 ⊢
      exact HIN.out.P _ (by omega)
    have hMB : tk = 2 → monB B0 = true := fun h => by
     rw [hB0 h]
     exact HIN.out.P _ (by omega)
    have hBq : monB (opB q s) = true := by
     unfold opB
     split
     ·exact HIN.out.P _ (by rename_i h9; unfold tkN at h9; rw [HTK.out, Int.toNat_natCast] at h9; omega)
     ·exact mon_zero
    have HMO : Hid (∀ r, q ≤ 13 → rkO kn s.V q z (opA q s) (opB q s) = some r → monO r = some r) := by
     intro r h13 hrk
     have hm9 := rk_mon (L := L) (n := l.length) (ap := s.at_) hq1 h13 HLN.out.1 HLN.out.2.1 HLN.out.2.2 HKR.out (by rw [hA0]; exact hMA) hBq HIN.out.V HF.out hrk
     unfold monO
     rw [if_pos hm9]
    have HOB := Lib.hid hOB
    have HMA := Lib.hid (of_decide_eq_true hMA)
    have HMB : Hid (tk = 2 → -1000000000000 ≤ B0 ∧ B0 ≤ 1000000000000) := fun h => of_decide_eq_true (hMB h)
    have HA0 := Lib.hid hA0
    have HFN := Lib.hid (fits_num HF.out)
    obtain ⟨qi, hqi⟩ : ∃ qi : Int, (q : Int) = qi := ⟨_, rfl⟩
    have HQI := Lib.hid hqi
    have HM14 : Hid (q = 14 → mstep kn (bnth l s.at_) s = some ⟨s.at_ + 1 + (furI 14 z).toNat, s.m, s.P, s.V⟩) := by
     intro h; unfold mstep; rw [HQZ.out.2.1, HQZ.out.2.2, if_pos h]
    have HM15 : Hid (q = 15 → mstep kn (bnth l s.at_) s = some ⟨if holdB (z.tmod 4) A0 B0 = true then s.at_ + 1 else s.at_ + 1 + (furI 15 z).toNat, s.m - 2, s.P, s.V⟩) := by
     intro h
     subst h
     have ht2 : tk = 2 := by have := HTK.out; have h9 : takesOf ((15 : Nat) : Int) = 2 := (by decide); omega
     have e1 : A0 = s.P (s.m - 2) := by rw [← hA0]; unfold opA tkN; rw [HTK.out, ht2]; rfl
     have e2 : B0 = s.P (s.m - 2 + 1) := by rw [hB0 ht2, show s.m - 2 + 1 = s.m - 1 by omega]
     unfold mstep
     rw [HQZ.out.2.1, HQZ.out.2.2, if_neg (by decide), if_pos rfl, e1, e2]
    have HM16 : Hid (q = 16 → mstep kn (bnth l s.at_) s = some ⟨s.at_ + 1, s.m - 1, s.P, updF s.V z.toNat A0⟩) := by
     intro h
     subst h
     have ht1 : tk = 1 := by have := HTK.out; have h9 : takesOf ((16 : Nat) : Int) = 1 := (by decide); omega
     have e1 : A0 = s.P (s.m - 1) := by rw [← hA0]; unfold opA tkN; rw [HTK.out, ht1]; rfl
     unfold mstep
     rw [HQZ.out.2.1, HQZ.out.2.2, if_neg (by decide), if_neg (by decide), if_pos rfl, e1]
    have HM0 : Hid (q ≤ 13 → mstep kn (bnth l s.at_) s = (rkO kn s.V q z (opA q s) (opB q s)).map fun r => ⟨s.at_ + 1, s.m - tk + 1, updF s.P (s.m - tk) r, s.V⟩) := by
     intro h
     unfold mstep
     rw [HQZ.out.2.1, HQZ.out.2.2, if_neg (by omega), if_neg (by omega), if_neg (by omega)]
     have e9 : tkN q = tk := by unfold tkN; rw [HTK.out, Int.toNat_natCast]
     rw [e9]
    have HNN : Hid (s.at_ + 1 ≤ 10000 ∧ 0 ≤ furI (q : Int) z ∧ (s.at_ : Int) + 1 + furI (q : Int) z ≤ 10000) := ⟨by omega, HFAR.out.1, by have := HFAR.out.2; have := HN.out; omega⟩
    clear hrp hb hA0 hB0 HRP3 HKR1 htk htb htb1 hOB hMA hMB hBq hroom
    go_upto_region 13 with fail
    go_step
    go_step
    go_step
    go_step
    go_step
    go_step
    go_step
    rw [hqi]
    clear hqi
    go_cut [11, 16] from 19 to 191 (fun i v wx => ∃ (rv : Int) (at' : Nat) (V' : Nat → Int), v = .int .i64 rv ∧ i = .int .i64 at' ∧ RPt wx vb vb L V' u10 (s.m - tk) s.P ∧ Below vb W1 wx ∧ ((q ≤ 13 ∧ at' = s.at_ ∧ V' = s.V ∧ rkO kn s.V q z (opA q s) (opB q s) = monO rv) ∨ (14 ≤ q ∧ mstep kn (bnth l s.at_) s = some ⟨at' + 1, s.m - tk, s.P, V'⟩)))
    case first =>
     have hc : q = 1 ∨ q = 2 ∨ q = 3 ∨ q = 4 ∨ q = 5 ∨ q = 6 ∨ q = 7 ∨ q = 8 ∨ q = 9 ∨ q = 10 ∨ q = 11 ∨ q = 12 ∨ q = 13 ∨ q = 14 ∨ q = 15 ∨ q = 16 := by omega
     rcases hc with h | h | h | h | h | h | h | h | h | h | h | h | h | h | h | h
     ·have HQ13 : Hid (q ≤ 13) := by unfold Hid; omega
      have HRK : Hid (rkO kn s.V q z (opA q s) (opB q s) = monO z) := by
       have h9 : rkO kn s.V q z (opA q s) (opB q s) = some z := by rw [HA0.out, h]; simp [rkO]
       have h13 : q ≤ 13 := by omega
       unfold Hid
       rw [HMO.out _ h13 h9]
       exact h9
      obtain rfl : qi = 1 := by have := HQI.out; omega
      as_aux_lemma =>
       go_wp2_with fail
       go_meet
       exact ⟨z, s.at_, s.V, rfl, rfl, HRP6.out, HBR6.out, .inl ⟨HQ13.out, rfl, rfl, HRK.out⟩⟩
     ·have HQ13 : Hid (q ≤ 13) := by unfold Hid; omega
      have HRK : Hid (rkO kn s.V q z (opA q s) (opB q s) = monO (anth kn.ins z.toNat).mon) := by
       have h9 : rkO kn s.V q z (opA q s) (opB q s) = some (anth kn.ins z.toNat).mon := by rw [HA0.out, h]; simp [rkO]
       have h13 : q ≤ 13 := by omega
       unfold Hid
       rw [HMO.out _ h13 h9]
       exact h9
      obtain rfl : qi = 2 := by have := HQI.out; omega
      obtain ⟨zn, hzn⟩ : ∃ zn : Nat, z = (zn : Int) := ⟨z.toNat, by have := HFN.out.2.1 h; omega⟩
      have hzL : zn < n1 := by have := HFN.out.2.1 h; omega
      have hzI : (zn : Int) < (n1 : Int) := by omega
      obtain ⟨kb, kof, rfl, hkc⟩ := HK.out.1.open HLN.out.1 (by omega)
      obtain ⟨-, y1⟩ := hkc _ HWR6.out zn hzL
      have x0 := HKR6.out.at 0 rfl
      subst hzn
      rw [Int.toNat_natCast] at HRK
      clear h hkc
      generalize (anth kn.ins zn).mon = rv at y1 HRK
      as_aux_lemma =>
       go_wp2_with fail
       go_meet
       exact ⟨rv, s.at_, s.V, rfl, rfl, HRP6.out, HBR6.out, .inl ⟨HQ13.out, rfl, rfl, HRK.out⟩⟩
     ·have HQ13 : Hid (q ≤ 13) := by unfold Hid; omega
      have HRK : Hid (rkO kn s.V q z (opA q s) (opB q s) = monO (s.V z.toNat)) := by
       have h9 : rkO kn s.V q z (opA q s) (opB q s) = some (s.V z.toNat) := by rw [HA0.out, h]; simp [rkO]
       have h13 : q ≤ 13 := by omega
       unfold Hid
       rw [HMO.out _ h13 h9]
       exact h9
      obtain rfl : qi = 3 := by have := HQI.out; omega
      obtain ⟨zn, hzn⟩ : ∃ zn : Nat, z = (zn : Int) := ⟨z.toNat, by have := HFN.out.2.2.1 h; omega⟩
      have hzL : zn < L := by have := HFN.out.2.2.1 h; omega
      have hzI : (zn : Int) < (L : Int) := by omega
      have y0 := (HRP6.out.vals zn hzL).1
      subst hzn
      rw [Int.toNat_natCast] at HRK
      clear h
      generalize s.V zn = rv at y0 HRK
      as_aux_lemma =>
       go_wp2_with fail
       go_meet
       exact ⟨rv, s.at_, s.V, rfl, rfl, HRP6.out, HBR6.out, .inl ⟨HQ13.out, rfl, rfl, HRK.out⟩⟩
     ·have HQ13 : Hid (q ≤ 13) := by unfold Hid; omega
      have HRK : Hid (rkO kn s.V q z (opA q s) (opB q s) = monO (anth kn.yrs z.toNat).mon) := by
       have h9 : rkO kn s.V q z (opA q s) (opB q s) = some (anth kn.yrs z.toNat).mon := by rw [HA0.out, h]; simp [rkO]
       have h13 : q ≤ 13 := by omega
       unfold Hid
       rw [HMO.out _ h13 h9]
       exact h9
      obtain rfl : qi = 4 := by have := HQI.out; omega
      obtain ⟨zn, hzn⟩ : ∃ zn : Nat, z = (zn : Int) := ⟨z.toNat, by have := HFN.out.2.2.2.1 h; omega⟩
      have hzL : zn < n3 := by have := HFN.out.2.2.2.1 h; omega
      have hzI : (zn : Int) < (n3 : Int) := by omega
      obtain ⟨kb, kof, rfl, hkc⟩ := HK.out.2.2.1.open HLN.out.2.2 (by omega)
      obtain ⟨-, y1⟩ := hkc _ HWR6.out zn hzL
      have x0 := HKR6.out.at 2 rfl
      subst hzn
      rw [Int.toNat_natCast] at HRK
      clear h hkc
      generalize (anth kn.yrs zn).mon = rv at y1 HRK
      as_aux_lemma =>
       go_wp2_with fail
       go_meet
       exact ⟨rv, s.at_, s.V, rfl, rfl, HRP6.out, HBR6.out, .inl ⟨HQ13.out, rfl, rfl, HRK.out⟩⟩
     ·have HQ13 : Hid (q ≤ 13) := by unfold Hid; omega
      have HRK : Hid (rkO kn s.V q z (opA q s) (opB q s) = monO (rd (A0 * z) 10000 5)) := by
       unfold Hid
       rw [HA0.out, h]
       simp [rkO]
      obtain rfl : qi = 5 := by have := HQI.out; omega
      have hz5 := of_decide_eq_true (HFN.out.2.2.2.2.1 h)
      have hm5 := mul_in2 HMA.out hz5
      have hw : IntKind.i64.wrap (A0 * z) = A0 * z := IntWalk.i64_in _ (by omega)
      have HRD := Lib.hid (fun W => rounded_ref (A0 * z) (10000) 5 W (by omega) (by omega) hm5.1 hm5.2 (by omega))
      as_aux_lemma =>
       go_wp2_with fail
       refine (HRD.out _).mono ?_
       rintro e W7 ⟨rfl, h7⟩
       subst W7
       go_wp2_with fail
       go_meet
       exact ⟨(rd (A0 * z) (10000) 5), s.at_, s.V, rfl, rfl, HRP6.out, HBR6.out, .inl ⟨HQ13.out, rfl, rfl, HRK.out⟩⟩
     ·have HQ13 : Hid (q ≤ 13) := by unfold Hid; omega
      have HRK : Hid (rkO kn s.V q z (opA q s) (opB q s) = monO (taxN (tnth kn.tbs z.toNat).bks A0)) := by
       have h9 : rkO kn s.V q z (opA q s) (opB q s) = some (taxN (tnth kn.tbs z.toNat).bks A0) := by rw [HA0.out, h]; simp [rkO]
       have h13 : q ≤ 13 := by omega
       unfold Hid
       rw [HMO.out _ h13 h9]
       exact h9
      obtain rfl : qi = 6 := by have := HQI.out; omega
      obtain ⟨zn, hzn⟩ : ∃ zn : Nat, z = (zn : Int) := ⟨z.toNat, by have := HFN.out.2.2.2.2.2.1 h; omega⟩
      have hzL : zn < n2 := by have := HFN.out.2.2.2.2.2.1 h; omega
      have hzI : (zn : Int) < (n2 : Int) := by omega
      obtain ⟨kb, kof, rfl, hkc⟩ := HK.out.2.1.open HLN.out.2.1 (by omega)
      obtain ⟨ta, tc, y0, y1, hcb, hns, hnb⟩ := hkc _ HWR6.out zn hzL
      have x0 := HKR6.out.at 1 rfl
      subst hzn
      rw [Int.toNat_natCast] at HRK
      have ht := HKR.out.tbs zn (by rw [HLN.out.2.1]; exact hzL)
      have hma := HMA.out
      have HTX : Hid (∀ W', Below W6.heap.size W6 W' → Calls Tryz.prog 38 #[.agg #[.string (tnth kn.tbs zn).name, .slice ta (tnth kn.tbs zn).bks.length tc], .int .i64 A0] W' fun e w' => e = .returned (.int .i64 (taxN (tnth kn.tbs zn).bks A0)) ∧ Below W'.heap.size W' w') := fun W' hb => taxOf_ref _ ta _ tc (tnth kn.tbs zn).bks A0 W' (hcb.below hb) rfl (tblE_ok ht).2 hma.1 hma.2
      generalize taxN (tnth kn.tbs zn).bks A0 = tx at HTX HRK
      clear h hkc hcb hns hnb ht
      generalize (tnth kn.tbs zn).name = tn at *
      generalize (tnth kn.tbs zn).bks.length = tl at *
      as_aux_lemma =>
       go_wp2_with fail
       refine (HTX.out _ (Below.refl _ _)).mono ?_
       rintro e W7 ⟨rfl, h7⟩
       have HRP7 := Lib.hid (HRP6.out.below h7)
       have HBR7 := Lib.hid (HBR6.out.trans (h7.mono (Nat.le_of_lt HRP6.out.lv)))
       clear h7
       go_wp2_with fail
       go_meet
       exact ⟨tx, s.at_, s.V, rfl, rfl, HRP7.out, HBR7.out, .inl ⟨HQ13.out, rfl, rfl, HRK.out⟩⟩
     ·have HQ13 : Hid (q ≤ 13) := by unfold Hid; omega
      have HRK : Hid (rkO kn s.V q z (opA q s) (opB q s) = monO (-A0)) := by
       have h9 : rkO kn s.V q z (opA q s) (opB q s) = some (-A0) := by rw [HA0.out, h]; simp [rkO]
       have h13 : q ≤ 13 := by omega
       unfold Hid
       rw [HMO.out _ h13 h9]
       exact h9
      obtain rfl : qi = 7 := by have := HQI.out; omega
      have hw : IntKind.i64.wrap (-A0) = -A0 := IntWalk.i64_in _ (by have := HMA.out; omega)
      as_aux_lemma =>
       go_wp2_with fail
       go_meet
       exact ⟨(-A0), s.at_, s.V, rfl, rfl, HRP6.out, HBR6.out, .inl ⟨HQ13.out, rfl, rfl, HRK.out⟩⟩
     ·have HQ13 : Hid (q ≤ 13) := by unfold Hid; omega
      have htk : tk = 2 := by have := HTK.out; have h9 : takesOf ((8 : Nat) : Int) = 2 := (by decide); rw [h] at this; omega
      have HRK : Hid (rkO kn s.V q z (opA q s) (opB q s) = monO (A0 + B0)) := by
       unfold Hid
       rw [HA0.out, HOB.out htk, h]
       simp [rkO]
      obtain rfl : qi = 8 := by have := HQI.out; omega
      have hmb := HMB.out htk
      have hma := HMA.out
      have hw : IntKind.i64.wrap (A0 + B0) = A0 + B0 := IntWalk.i64_in _ (by omega)
      as_aux_lemma =>
       go_wp2_with fail
       go_meet
       exact ⟨(A0 + B0), s.at_, s.V, rfl, rfl, HRP6.out, HBR6.out, .inl ⟨HQ13.out, rfl, rfl, HRK.out⟩⟩
     ·have HQ13 : Hid (q ≤ 13) := by unfold Hid; omega
      have htk : tk = 2 := by have := HTK.out; have h9 : takesOf ((9 : Nat) : Int) = 2 := (by decide); rw [h] at this; omega
      have HRK : Hid (rkO kn s.V q z (opA q s) (opB q s) = monO (A0 - B0)) := by
       unfold Hid
       rw [HA0.out, HOB.out htk, h]
       simp [rkO]
      obtain rfl : qi = 9 := by have := HQI.out; omega
      have hmb := HMB.out htk
      have hma := HMA.out
      have hw : IntKind.i64.wrap (A0 - B0) = A0 - B0 := IntWalk.i64_in _ (by omega)
      as_aux_lemma =>
       go_wp2_with fail
       go_meet
       exact ⟨(A0 - B0), s.at_, s.V, rfl, rfl, HRP6.out, HBR6.out, .inl ⟨HQ13.out, rfl, rfl, HRK.out⟩⟩
     ·have HQ13 : Hid (q ≤ 13) := by unfold Hid; omega
      have HRK : Hid (rkO kn s.V q z (opA q s) (opB q s) = monO (A0 * z)) := by
       unfold Hid
       rw [HA0.out, h]
       simp [rkO]
      obtain rfl : qi = 10 := by have := HQI.out; omega
      have hz5 := HFN.out.2.2.2.2.2.2 (.inl h)
      have hw : IntKind.i64.wrap (A0 * z) = A0 * z := mul_in HMA.out hz5
      as_aux_lemma =>
       go_wp2_with fail
       go_meet
       exact ⟨(A0 * z), s.at_, s.V, rfl, rfl, HRP6.out, HBR6.out, .inl ⟨HQ13.out, rfl, rfl, HRK.out⟩⟩
     ·have HQ13 : Hid (q ≤ 13) := by unfold Hid; omega
      have HRK : Hid (rkO kn s.V q z (opA q s) (opB q s) = monO (rd A0 z 5)) := by
       unfold Hid
       rw [HA0.out, h]
       simp [rkO]
      obtain rfl : qi = 11 := by have := HQI.out; omega
      have hz5 := HFN.out.2.2.2.2.2.2 (.inr h)
      have hm5 := HMA.out
      have HRD := Lib.hid (fun W => rounded_ref (A0) (z) 5 W (by omega) (by omega) (by omega) (by omega) (by omega))
      as_aux_lemma =>
       go_wp2_with fail
       refine (HRD.out _).mono ?_
       rintro e W7 ⟨rfl, h7⟩
       subst W7
       go_wp2_with fail
       go_meet
       exact ⟨(rd (A0) (z) 5), s.at_, s.V, rfl, rfl, HRP6.out, HBR6.out, .inl ⟨HQ13.out, rfl, rfl, HRK.out⟩⟩
     ·have HQ13 : Hid (q ≤ 13) := by unfold Hid; omega
      have htk : tk = 2 := by have := HTK.out; have h9 : takesOf ((12 : Nat) : Int) = 2 := (by decide); rw [h] at this; omega
      have HRK : Hid (rkO kn s.V q z (opA q s) (opB q s) = monO (if B0 < A0 then B0 else A0)) := by
       have h9 : rkO kn s.V q z (opA q s) (opB q s) = some (if B0 < A0 then B0 else A0) := by rw [HA0.out, HOB.out htk, h]; simp [rkO]
       have h13 : q ≤ 13 := by omega
       unfold Hid
       rw [HMO.out _ h13 h9]
       exact h9
      obtain rfl : qi = 12 := by have := HQI.out; omega
      by_cases hc : B0 < A0
      ·have hcB : decide (B0 < A0) = true := decide_eq_true hc
       rw [if_pos hc] at HRK
       as_aux_lemma =>
        go_wp2_with fail
        go_meet
        exact ⟨B0, s.at_, s.V, rfl, rfl, HRP6.out, HBR6.out, .inl ⟨HQ13.out, rfl, rfl, HRK.out⟩⟩
      ·have hcB : decide (B0 < A0) = false := decide_eq_false hc
       rw [if_neg hc] at HRK
       as_aux_lemma =>
        go_wp2_with fail
        go_meet
        exact ⟨A0, s.at_, s.V, rfl, rfl, HRP6.out, HBR6.out, .inl ⟨HQ13.out, rfl, rfl, HRK.out⟩⟩
     ·have HQ13 : Hid (q ≤ 13) := by unfold Hid; omega
      have htk : tk = 2 := by have := HTK.out; have h9 : takesOf ((13 : Nat) : Int) = 2 := (by decide); rw [h] at this; omega
      have HRK : Hid (rkO kn s.V q z (opA q s) (opB q s) = monO (if A0 < B0 then B0 else A0)) := by
       have h9 : rkO kn s.V q z (opA q s) (opB q s) = some (if A0 < B0 then B0 else A0) := by rw [HA0.out, HOB.out htk, h]; simp [rkO]
       have h13 : q ≤ 13 := by omega
       unfold Hid
       rw [HMO.out _ h13 h9]
       exact h9
      obtain rfl : qi = 13 := by have := HQI.out; omega
      by_cases hc : A0 < B0
      ·have hcB : decide (A0 < B0) = true := decide_eq_true hc
       rw [if_pos hc] at HRK
       as_aux_lemma =>
        go_wp2_with fail
        go_meet
        exact ⟨B0, s.at_, s.V, rfl, rfl, HRP6.out, HBR6.out, .inl ⟨HQ13.out, rfl, rfl, HRK.out⟩⟩
      ·have hcB : decide (A0 < B0) = false := decide_eq_false hc
       rw [if_neg hc] at HRK
       as_aux_lemma =>
        go_wp2_with fail
        go_meet
        exact ⟨A0, s.at_, s.V, rfl, rfl, HRP6.out, HBR6.out, .inl ⟨HQ13.out, rfl, rfl, HRK.out⟩⟩
     ·obtain rfl : qi = 14 := by have := HQI.out; omega
      have hnn := HNN.out
      have hm := HM14.out h
      have HMS : Hid (mstep kn (bnth l s.at_) s = some ⟨(s.at_ + (furI (q : Int) z).toNat) + 1, s.m - tk, s.P, s.V⟩) := by
       unfold Hid
       rw [hm]
       have ht : tk = 0 := by have := HTK.out; have h9 : takesOf ((14 : Nat) : Int) = 0 := (by decide); rw [h] at this; omega
       rw [ht, h, show s.at_ + 1 + (furI 14 z).toNat = s.at_ + (furI ((14 : Nat) : Int) z).toNat + 1 by have : furI ((14 : Nat) : Int) z = furI 14 z := rfl; omega]
       rfl
      obtain ⟨o0, o1⟩ := HOC.out W6 HWR6.out
      have hq14 : (q : Int) = 14 := by omega
      rw [hq14] at o0 hnn
      have hfz : furI 14 z = z := rfl
      rw [hfz] at hnn
      have HGT := Lib.hid (goesTo_14 b off n cap s.at_ z W6 hlt hn1 o0 o1 (by omega))
      have HQ14 : Hid (14 ≤ q) := by unfold Hid; omega
      rw [hq14] at HMS
      obtain ⟨t3, ht3⟩ : ∃ x : Nat, s.at_ + (furI 14 z).toNat = x := ⟨_, rfl⟩
      rw [ht3] at HMS
      rw [show s.at_ + 1 + (furI 14 z).toNat = t3 + 1 by omega] at HGT
      have hw : IntKind.i64.wrap (((t3 + 1 : Nat) : Int) - 1) = (t3 : Int) := by rw [show ((t3 + 1 : Nat) : Int) - 1 = (t3 : Int) by omega]; exact IntWalk.i64_in _ (by rw [hfz] at ht3; omega)
      generalize ((t3 + 1 : Nat) : Int) = t4 at HGT hw
      clear hm hnn hq14 hfz ht3 o0 o1 h
      as_aux_lemma =>
       go_wp2_with fail
       refine HGT.out.mono ?_
       rintro e W7 ⟨rfl, h7⟩
       subst W7
       go_wp2_with fail
       go_meet
       exact ⟨0, t3, s.V, rfl, rfl, HRP6.out, HBR6.out, .inr ⟨HQ14.out, HMS.out⟩⟩
     ·obtain rfl : qi = 15 := by have := HQI.out; omega
      have hT : 1 ≤ z.tmod 4 ∧ z.tmod 4 ≤ 3 := by
       have h9 := HF.out
       rw [h] at h9
       simp [fitsB, testB] at h9
       omega
      have ht : tk = 2 := by have := HTK.out; have h9 : takesOf ((15 : Nat) : Int) = 2 := (by decide); rw [h] at this; omega
      have hnn := HNN.out
      have hm := HM15.out h
      rw [← ht] at hm
      obtain ⟨o0, o1⟩ := HOC.out W6 HWR6.out
      have hq15 : (q : Int) = 15 := by omega
      rw [hq15] at o0 hnn
      have hfz : furI 15 z = z.tdiv 4 := rfl
      rw [hfz] at hnn hm
      have HGT := Lib.hid (goesTo_15 b off n cap s.at_ z W6 hlt hn1 o0 o1 (by omega) HIZ.out)
      have HQ14 : Hid (14 ≤ q) := by unfold Hid; omega
      obtain ⟨t3, ht3⟩ : ∃ x : Nat, s.at_ + (z.tdiv 4).toNat = x := ⟨_, rfl⟩
      have et : s.at_ + 1 + (z.tdiv 4).toNat = t3 + 1 := by omega
      rw [et] at hm
      rw [hfz, et] at HGT
      have HMSF : Hid (holdB (z.tmod 4) A0 B0 = false → mstep kn (bnth l s.at_) s = some ⟨t3 + 1, s.m - tk, s.P, s.V⟩) := fun h9 => by
       rw [hm, if_neg (by rw [h9]; decide)]
      have HMST : Hid (holdB (z.tmod 4) A0 B0 = true → mstep kn (bnth l s.at_) s = some ⟨s.at_ + 1, s.m - tk, s.P, s.V⟩) := fun h9 => by
       rw [hm, if_pos h9]
      have hw : IntKind.i64.wrap (((t3 + 1 : Nat) : Int) - 1) = (t3 : Int) := by rw [show ((t3 + 1 : Nat) : Int) - 1 = (t3 : Int) by omega]; exact IntWalk.i64_in _ (by omega)
      generalize ((t3 + 1 : Nat) : Int) = t4 at HGT hw
      have hwt : IntKind.i64.wrap (z.tmod 4) = z.tmod 4 := IntWalk.i64_in _ (by omega)
      obtain ⟨T, hTT⟩ : ∃ T, z.tmod 4 = T := ⟨_, rfl⟩
      have hT3 : T = 1 ∨ T = 2 ∨ T = 3 := by omega
      clear hm hnn hq15 hfz ht3 o0 o1 h et ht hT
      rw [hTT] at HMSF HMST hwt
      rcases hT3 with rfl | rfl | rfl
      ·by_cases hc : A0 < B0
       ·have hcB : decide (A0 < B0) = true := decide_eq_true hc
        have HMS : Hid (mstep kn (bnth l s.at_) s = some ⟨s.at_ + 1, s.m - tk, s.P, s.V⟩) := HMST.out (by unfold holdB; rw [if_pos rfl]; exact hcB)
        as_aux_lemma =>
         go_wp2_with fail
         go_meet
         exact ⟨0, s.at_, s.V, rfl, rfl, HRP6.out, HBR6.out, .inr ⟨HQ14.out, HMS.out⟩⟩
       ·have hcB : decide (A0 < B0) = false := decide_eq_false hc
        have HMS : Hid (mstep kn (bnth l s.at_) s = some ⟨t3 + 1, s.m - tk, s.P, s.V⟩) := HMSF.out (by unfold holdB; rw [if_pos rfl]; exact hcB)
        as_aux_lemma =>
         go_wp2_with fail
         refine HGT.out.mono ?_
         rintro e W7 ⟨rfl, h7⟩
         subst W7
         go_wp2_with fail
         go_meet
         exact ⟨0, t3, s.V, rfl, rfl, HRP6.out, HBR6.out, .inr ⟨HQ14.out, HMS.out⟩⟩
      ·by_cases hc : A0 ≤ B0
       ·have hcB : decide (A0 ≤ B0) = true := decide_eq_true hc
        have HMS : Hid (mstep kn (bnth l s.at_) s = some ⟨s.at_ + 1, s.m - tk, s.P, s.V⟩) := HMST.out (by unfold holdB; rw [if_neg (by decide), if_pos rfl]; exact hcB)
        as_aux_lemma =>
         go_wp2_with fail
         go_meet
         exact ⟨0, s.at_, s.V, rfl, rfl, HRP6.out, HBR6.out, .inr ⟨HQ14.out, HMS.out⟩⟩
       ·have hcB : decide (A0 ≤ B0) = false := decide_eq_false hc
        have HMS : Hid (mstep kn (bnth l s.at_) s = some ⟨t3 + 1, s.m - tk, s.P, s.V⟩) := HMSF.out (by unfold holdB; rw [if_neg (by decide), if_pos rfl]; exact hcB)
        as_aux_lemma =>
         go_wp2_with fail
         refine HGT.out.mono ?_
         rintro e W7 ⟨rfl, h7⟩
         subst W7
         go_wp2_with fail
         go_meet
         exact ⟨0, t3, s.V, rfl, rfl, HRP6.out, HBR6.out, .inr ⟨HQ14.out, HMS.out⟩⟩
      ·by_cases hc : A0 = B0
       ·have hcB : (A0 == B0) = true := by simpa using hc
        have HMS : Hid (mstep kn (bnth l s.at_) s = some ⟨s.at_ + 1, s.m - tk, s.P, s.V⟩) := HMST.out (by unfold holdB; rw [if_neg (by decide), if_neg (by decide)]; exact hcB)
        as_aux_lemma =>
         go_wp2_with fail
         go_meet
         exact ⟨0, s.at_, s.V, rfl, rfl, HRP6.out, HBR6.out, .inr ⟨HQ14.out, HMS.out⟩⟩
       ·have hcB : (A0 == B0) = false := by simpa using hc
        have HMS : Hid (mstep kn (bnth l s.at_) s = some ⟨t3 + 1, s.m - tk, s.P, s.V⟩) := HMSF.out (by unfold holdB; rw [if_neg (by decide), if_neg (by decide)]; exact hcB)
        as_aux_lemma =>
         go_wp2_with fail
         refine HGT.out.mono ?_
         rintro e W7 ⟨rfl, h7⟩
         subst W7
         go_wp2_with fail
         go_meet
         exact ⟨0, t3, s.V, rfl, rfl, HRP6.out, HBR6.out, .inr ⟨HQ14.out, HMS.out⟩⟩
     ·obtain rfl : qi = 16 := by have := HQI.out; omega
      have hzl := fits_line HF.out (.inr (by omega))
      obtain ⟨zn, hzn⟩ : ∃ zn : Nat, z = (zn : Int) := ⟨z.toNat, by omega⟩
      have hzL : zn < L := by omega
      have hzI : (zn : Int) < (L : Int) := by omega
      have hm := HM16.out h
      subst hzn
      rw [Int.toNat_natCast] at hm
      have HMS : Hid (mstep kn (bnth l s.at_) s = some ⟨s.at_ + 1, s.m - tk, s.P, updF s.V zn A0⟩) := by
       unfold Hid
       have ht : tk = 1 := by have := HTK.out; have h9 : takesOf ((16 : Nat) : Int) = 1 := (by decide); rw [h] at this; omega
       rw [hm, ht]
      have HQ14 : Hid (14 ≤ q) := by unfold Hid; omega
      have y0 := (HRP6.out.vals zn hzL).1
      have f0 := (HRP6.out.vals zn hzL).2
      generalize s.V zn = ov at y0
      clear hm h hzl
      as_aux_lemma =>
       go_wp2_with fail
       go_meet
       exact ⟨0, s.at_, updF s.V zn A0, rfl, rfl, HRP6.out.keep hzL A0, HBR6.out.setCell (p := ⟨vb, zn, none⟩) (Nat.le_refl _) _, .inr ⟨HQ14.out, HMS.out⟩⟩
    case rest =>
     obtain ⟨rv, at', V', rfl, rfl, hrp, hb, hcs⟩ := hcut
     rename World => W8
     have HRP8 := Lib.hid hrp
     have HBR8 := Lib.hid hb
     have HWW8 : Hid (Below w.heap.size w W8) := HBW.out.trans (hb.mono (by have := HVB.out; omega))
     have HCS := Lib.hid hcs
     clear hrp hb hcs HRP6 HBR6 HKR6 HWR6
     obtain ⟨ly, hly⟩ : ∃ x, laysOf (q : Int) = x := ⟨_, rfl⟩
     have HLY : Hid (Calls Tryz.prog 34 #[.int .i64 qi] W8 fun e w' => e = .returned (.int .i64 ly) ∧ w' = W8) := by rw [← HQI.out, ← hly]; exact Lays_ref q W8
     have hmb : s.m ≤ 20000 := by
      have h5 := ckM_20000 HP.out l.length (Nat.le_refl _)
      have h6 := inv_room HP.out HIN.out hltL
      have h7 := HN.out
      have h8 := takes_bd (bnth l s.at_).frm.toNat
      have h9 := lays_bd (bnth l s.at_).frm.toNat
      omega
     have HMSB := Lib.hid hmb
     clear hmb
     go_wp2_with fail
     refine HLY.out.mono ?_
     rintro e w9 ⟨rfl, h9⟩
     subst w9
     rcases HCS.out with ⟨h13, rfl, rfl, hrk⟩ | ⟨h14, hms⟩
     ·have hl1 : ly = 1 := by rw [← hly]; unfold laysOf; rw [if_pos (by omega)]
      subst hl1
      have HST := Lib.hid (HM0.out h13)
      have HRK := Lib.hid hrk
      clear h13 hrk hly HCS
      have HIM := Lib.hid (fun w' => isMoney_ref rv w')
      cases hmv : monB rv
      ·have HNO : Hid (mstep kn (bnth l s.at_) s = none) := by
        unfold Hid
        rw [HST.out, HRK.out]
        unfold monO
        rw [hmv]
        rfl
       rw [hmv] at HIM
       clear hmv
       go_wp2_with fail
       refine (HIM.out _).mono ?_
       rintro e w9 ⟨rfl, h9⟩
       subst w9
       go_wp2_with fail
       refine bodyPost_ret (v := .tuple #[.slice none 0 0, .int .i64 (s.at_ : Int), .int .i64 3]) (by simp [results, Tryz.results10, go_sem] <;> rfl) rfl ?_
       exact ⟨HWW8.out, s, HRE.out, HIN.out, .inr ⟨hltL, HNO.out, rfl⟩⟩
      ·have HSO : Hid (mstep kn (bnth l s.at_) s = some ⟨s.at_ + 1, s.m - tk + 1, updF s.P (s.m - tk) rv, s.V⟩) := by
        unfold Hid
        rw [HST.out, HRK.out]
        unfold monO
        rw [hmv]
        rfl
       rw [hmv] at HIM
       clear hmv
       have HIV := Lib.hid (inv_step HP.out HLN.out.1 HLN.out.2.1 HLN.out.2.2 HKR.out HIN.out hltL HSO.out)
       have hbo := kbelow_box W8 (.cells #[.int .i64 rv] 3)
       have HRP9 := Lib.hid (HRP8.out.below hbo)
       have HBR9 : Hid (Below vb W1 (W8.alloc (.cells #[.int .i64 rv] 3))) := HBR8.out.trans (hbo.mono (Nat.le_of_lt HRP8.out.lv))
       have hrc := (Cbx.made W8 [.int .i64 rv] 3).at 0 rfl
       have HRC := Lib.hid hrc
       have hw9 : IntKind.i64.wrap ((s.at_ : Int) + 1) = ((s.at_ + 1 : Nat) : Int) := by rw [show ((s.at_ + 1 : Nat) : Int) = (s.at_ : Int) + 1 by omega]; exact IntWalk.i64_in _ (by omega)
       clear hbo hrc
       go_wp2_with fail
       refine (HIM.out _).mono ?_
       rintro e w9 ⟨rfl, h9⟩
       subst w9
       go_wp2_with (at_builtin; refine wpList_app _ rfl _ _ rfl vb _ (pileL (s.m - tk) s.P) rfl HRP9.out.grow ⟨W8.heap.size, 0, none⟩ 1 rv rfl HRC.out (by rw [pileL_len]; have := HMSB.out; omega) (Nat.le_of_lt HRP9.out.lv) ?_; intro v' w' hg' hw' hv' _; have HG9 := Lib.hid (And.intro hg' (And.intro hw' hv')); clear hg' hw' hv')
       go_roundw
       case rel => exact ⟨_, .step HRE.out hltL HSO.out, HIV.out.1, rfl, HRP9.out.app HG9.out.1 HG9.out.2.1 HG9.out.2.2, HBR9.out.grown HG9.out.2.1 (Nat.le_of_lt HRP9.out.lv) (fun k hk => (HRP9.out.grow.lt k hk).1)⟩
       case measure =>
        simp [intOf]
        omega
     ·have hl0 : ly = 0 := by rw [← hly]; unfold laysOf; rw [if_neg (by omega)]
      subst hl0
      have HSO := Lib.hid hms
      have HIV := Lib.hid (inv_step HP.out HLN.out.1 HLN.out.2.1 HLN.out.2.2 HKR.out HIN.out hltL HSO.out)
      have hatb : at' + 1 ≤ 10000 := by have h6 := HIV.out.1.le; have h7 := HN.out; have h8 : at' + 1 ≤ l.length := h6; omega
      have hatl : s.at_ < at' + 1 := HIV.out.2
      have hw9 : IntKind.i64.wrap ((at' : Int) + 1) = ((at' + 1 : Nat) : Int) := by rw [show ((at' + 1 : Nat) : Int) = (at' : Int) + 1 by omega]; exact IntWalk.i64_in _ (by omega)
      clear hms hly HCS
      go_wp2_with fail
      go_roundw
      case rel => exact ⟨_, .step HRE.out hltL HSO.out, HIV.out.1, rfl, HRP8.out, HBR8.out⟩
      case measure =>
       simp [intOf]
       omega
  ·have hend : n = s.at_ := by have := HIN.out.le; have := HN.out; omega
   have hnn : ¬ (s.at_ : Int) < (n : Int) := by omega
   have hnd : decide (s.at_ < n) = false := decide_eq_false hlt
   have HE := Lib.hid hend
   clear hend
   go_wp2_with fail
   refine bodyPost_ret (v := .tuple #[.slice (some ⟨vb, 0, none⟩) L L, .int .i64 0, .int .i64 0]) (by simp [results, Tryz.results10, go_sem] <;> rfl) rfl ?_
   exact ⟨HWR.out, s, HRE.out, HIN.out, .inl ⟨by rw [HN.out]; exact HE.out.symm, vb, rfl, by have := HVB.out; omega, HRP.out.lv, fun j hj => (HRP.out.vals j hj).1⟩⟩
end Go.Proofs.YtmlpedgcpffpnaaGreatDoor
