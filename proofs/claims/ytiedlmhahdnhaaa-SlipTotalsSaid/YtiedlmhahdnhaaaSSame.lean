/-
  Promise R: the walks of the reference's SameAmounts, SameSlip, SameSlips and Same at lists that are the same; slipsAre; VoidSlip.
-/
import Derived.Test.YtiedlmhahdnhaaaSRefV
namespace Go.Proofs.Ytiedlmhahdnhaaa
open Go.RowKit Go.Sort

set_option maxRecDepth 100000 in
set_option maxHeartbeats 2000000 in
theorem sameAmounts_yes (x y : Option Addr) (n c d : Nat) (l : List Am) (w : World) (hx : CameA w x l) (hy : CameA w y l) (hn : l.length = n) (hm : n ≤ 9223372036854775807) :
    Calls Try.prog 16 #[.slice x n c, .slice y n d] w fun e w' => e = .returned (.bool true) ∧ ∃ q, w' = w.drewN q := by
  have HX := Lib.hid (fun h0 => hx.open hn h0)
  have HY := Lib.hid (fun h0 => hy.open hn h0)
  have hnn : ((n : Int) != (n : Int)) = false := by simp
  clear hx hy hn
  go_enter Try.func16, Try.ntmps16
  go_wp2_with fail
  go_loopw [5] (fun i wr => ∃ k : Nat, k ≤ n ∧ i = .int .i64 k ∧ ∃ q, wr = w.drewN q) (fun i _ => n - (intOf i).toNat)
  case atStart => exact ⟨0, Nat.zero_le _, rfl, 0, rfl⟩
  case round =>
    obtain ⟨k, hk, rfl, q, rfl⟩ := hrel
    by_cases hlt : k < n
    · have hlt' : (k : Int) < (n : Int) := by omega
      obtain ⟨b1, o1, rfl, hc1⟩ := HX.out (by omega)
      obtain ⟨b2, o2, rfl, hc2⟩ := HY.out (by omega)
      obtain ⟨x0, x1⟩ := hc1 w (Below.refl _ _) k hlt
      obtain ⟨y0, y1⟩ := hc2 w (Below.refl _ _) k hlt
      clear hc1 hc2
      generalize (anth l k).name = nm at *
      generalize (anth l k).mon = mo at *
      go_wp2_with fail
      go_quiet (fail)
      go_wp2_with fail
      go_roundw
      case rel => exact ⟨k + 1, by omega, by go_num, _, rfl⟩
      case measure => simp [intOf]; omega
    · go_wp2_with fail
      go_ret
      exact ⟨rfl, _, rfl⟩
theorem same_zero (x y : Option Addr) (c d : Nat) (w : World) : Calls Try.prog 24 #[.slice x 0 c, .slice y 0 d] w fun e w' => e = .returned (.bool true) ∧ w' = w := by
  go_enter Try.func24, Try.ntmps24
  go_wp2
  refine wp_loop_rounds 1 ?_
  rw [rounds_succ]
  go_wp2
  go_ret
  exact ⟨rfl, rfl⟩
theorem sameI_yes (v u : Value) (l : List Int) (w : World) (hl : l.length ≤ 100000) (hv : CameI w v l) (hu : CameI w u l) :
    Calls Try.prog 24 #[v, u] w fun e w' => e = .returned (.bool true) ∧ ∃ q, w' = w.drewN q := by
  obtain ⟨x, c, rfl, -, hv⟩ := hv
  obtain ⟨y, d, rfl, -, hu⟩ := hu
  rcases hv with h0 | ⟨b1, o1, rfl, hv⟩
  · rw [h0]
    exact (same_zero x y c d w).mono fun e w' ⟨h1, h2⟩ => ⟨h1, 0, h2⟩
  · rcases hu with h0 | ⟨b2, o2, rfl, hu⟩
    · rw [h0]
      exact (same_zero _ y c d w).mono fun e w' ⟨h1, h2⟩ => ⟨h1, 0, h2⟩
    · exact same_yes b1 o1 c b2 o2 d l w (by omega) hv hu
set_option maxRecDepth 100000 in
set_option maxHeartbeats 2000000 in
theorem sameSlip_yes (nu pe ru : Int) (g : Bool) (x y : Option Addr) (n c d : Nat) (l : List Am) (w : World) (hx : PsAt w x l) (hy : PsAt w y l) (hn : l.length = n) :
    Calls Try.prog 42 #[.agg #[.int .i64 nu, .int .i64 pe, .int .i64 ru, .bool g, .slice x n c], .agg #[.int .i64 nu, .int .i64 pe, .int .i64 ru, .bool g, .slice y n d]] w fun e w' => e = .returned (.bool true) ∧ Below w.heap.size w w' := by
  have HB : Hid (Below w.heap.size w ((w.alloc (.cells #[.int .i64 nu, .int .i64 pe, .int .i64 ru, .bool g, .slice x n c] 44)).alloc (.cells #[.int .i64 nu, .int .i64 pe, .int .i64 ru, .bool g, .slice y n d] 44))) := Lib.hid (((Below.refl w.heap.size w).alloc (Nat.le_refl _) _).alloc (by simp) _)
  have HX := Lib.hid (hx.below HB.out)
  have HY := Lib.hid (hy.below HB.out)
  have HN := Lib.hid hn
  clear hx hy hn
  have HM : Hid (n ≤ 9223372036854775807) := Lib.hid (by have h1 := HX.out.2.2; have h2 := HN.out; unfold maxLen at h1; omega)
  go_enter Try.func42, Try.ntmps42
  go_wp2_with fail
  refine (sameAmounts_yes x y n c d l _ HX.out.1 HY.out.1 HN.out HM.out).mono ?_
  rintro e w1 ⟨rfl, q, hw⟩
  subst hw
  have HB2 := Lib.hid (kbelow_dN HB.out q)
  go_wp2_with fail
  go_ret
  exact ⟨kret_bool (by first | rfl | simp), HB2.out⟩
set_option maxRecDepth 100000 in
set_option maxHeartbeats 4000000 in
theorem sameSlips_yes (x y : Option Addr) (n c d : Nat) (l : List Sl) (w : World) (hx : CameS w x l) (hy : CameS w y l) (hn : l.length = n) (hm : n ≤ 1000) :
    Calls Try.prog 26 #[.slice x n c, .slice y n d] w fun e w' => e = .returned (.bool true) ∧ Below w.heap.size w w' := by
  have HX := Lib.hid (fun h0 => hx.open hn h0)
  have HY := Lib.hid (fun h0 => hy.open hn h0)
  have hnn : ((n : Int) != (n : Int)) = false := by simp
  clear hx hy hn
  go_enter Try.func26, Try.ntmps26
  go_wp2_with fail
  go_loopw [5] (fun i wr => ∃ k : Nat, k ≤ n ∧ i = .int .i64 k ∧ Below w.heap.size w wr) (fun i _ => n - (intOf i).toNat)
  case atStart => exact ⟨0, Nat.zero_le _, rfl, Below.refl _ _⟩
  case round =>
    obtain ⟨k, hk, rfl, hb⟩ := hrel
    have HB := Lib.hid hb
    clear hb
    by_cases hlt : k < n
    · have hlt' : (k : Int) < (n : Int) := by omega
      obtain ⟨b1, o1, rfl, hc1⟩ := HX.out (by omega)
      obtain ⟨b2, o2, rfl, hc2⟩ := HY.out (by omega)
      obtain ⟨⟨x0, x1, x2, x3⟩, ax, cx, x4, hpx⟩ := hc1 wr HB.out k hlt
      obtain ⟨⟨y0, y1, y2, y3⟩, ay, cy, y4, hpy⟩ := hc2 wr HB.out k hlt
      clear hc1 hc2
      have HK := Lib.hid (fun W (hW : Below wr.heap.size wr W) => sameSlip_yes (snth l k).num (snth l k).per (snth l k).run (snth l k).gone ax ay (snth l k).tot.length cx cy (snth l k).tot W (hpx.below hW) (hpy.below hW) rfl)
      clear hpx hpy
      have k0 := cell_regrown x0
      have k1 := cell_regrown x1
      have k2 := cell_regrown x2
      have k3 := cell_regrown x3
      have k4 := cell_regrown x4
      have j0 := cell_regrown y0
      have j1 := cell_regrown y1
      have j2 := cell_regrown y2
      have j3 := cell_regrown y3
      have j4 := cell_regrown y4
      go_wp2_with fail
      refine wp_region_quiet_below (by kernel_rfl) (by kernel_rfl) ?_
      repeat (quiet_step (exact Calls.regrown_of (HK.out _ (below_regrown _ _ _))))
      refine wpQuiet_nil ?_
      intro _ hw'
      obtain ⟨⟨dq, osq⟩, hw''⟩ := hw'
      subst hw''
      go_wp2_with fail
      go_roundw
      case rel => exact ⟨k + 1, by omega, by go_num, HB.out.trans ((below_regrown wr dq osq).mono HB.out.size)⟩
      case measure => simp [intOf]; omega
    · go_wp2_with fail
      go_ret
      exact ⟨rfl, HB.out⟩
/-- Slips that lie in a slice. -/
def SlsIn (w : World) (v : Value) (l : List Sl) : Prop := ∃ x c, v = .slice x l.length c ∧ CameS w x l
theorem SlsIn.below {w w' : World} {v : Value} {l : List Sl} (h : SlsIn w v l) (hb : Below w.heap.size w w') : SlsIn w' v l := by
  obtain ⟨x, c, e, h⟩ := h
  exact ⟨x, c, e, h.below hb⟩
theorem SlsIn.nil (w : World) : SlsIn w (.slice none 0 0) [] := ⟨none, 0, rfl, .inl rfl⟩
theorem CameI.nil (w : World) : CameI w (.slice none 0 0) [] := ⟨none, 0, rfl, ⟨Nat.le_refl _, Nat.zero_le _⟩, .inl rfl⟩
theorem OwnS.sls {w : World} {B D m : Nat} {v : Value} {l : List Sl} (h : OwnS w B D m v l) : SlsIn w v l := h.slice
theorem ssame_yes (v u : Value) (l : List Sl) (w : World) (hl : l.length ≤ 1000) (hv : SlsIn w v l) (hu : SlsIn w u l) :
    Calls Try.prog 26 #[v, u] w fun e w' => e = .returned (.bool true) ∧ Below w.heap.size w w' := by
  obtain ⟨x, c, rfl, hv⟩ := hv
  obtain ⟨y, d, rfl, hu⟩ := hu
  exact sameSlips_yes x y l.length c d l w hv hu rfl hl
set_option maxRecDepth 100000 in
set_option maxHeartbeats 2000000 in
theorem slipsAre_yes (v u z m : Value) (er : Int) (L : List Sl) (G : List Int) (w : World) (hL : L.length ≤ 1000) (hG : G.length ≤ 100000) (hv : SlsIn w v L) (hu : CameI w u G) (hz : er = 0 → SlsIn w z L) (hm : er = 0 → CameI w m G) (h0 : er ≠ 0 → L = [] ∧ G = []) :
    Calls Try.prog 19 #[v, u, .int .i64 er, .int .i64 er, z, m] w fun e w' => e = .returned (.bool true) ∧ Below w.heap.size w w' := by
  have HL := Lib.hid hL
  have HG := Lib.hid hG
  have HV := Lib.hid hv
  have HU := Lib.hid hu
  by_cases he : er = 0
  · have HZ := Lib.hid (hz he)
    have HM := Lib.hid (hm he)
    subst he
    clear hL hG hv hu hz hm h0
    go_enter Try.func19, Try.ntmps19
    go_wp2_with fail
    refine (ssame_yes v z L _ HL.out HV.out HZ.out).mono ?_
    rintro e w1 ⟨rfl, hb⟩
    have HB := Lib.hid hb
    clear hb
    go_wp2_with fail
    refine (sameI_yes u m G _ HG.out (HU.out.below HB.out) (HM.out.below HB.out)).mono ?_
    rintro e w2 ⟨rfl, q, hw⟩
    subst hw
    have HB2 := Lib.hid (kbelow_dN HB.out q)
    go_wp2_with fail
    go_ret
    exact ⟨kret_bool (by first | rfl | simp), HB2.out⟩
  · obtain ⟨rfl, rfl⟩ := h0 he
    have h1 : (er != 0) = true := by simp [he]
    have HZ := Lib.hid (SlsIn.nil w)
    clear hL hG hv hu hz hm h0 he
    go_enter Try.func19, Try.ntmps19
    go_wp2_with fail
    refine (ssame_yes v _ [] _ HL.out HV.out HZ.out).mono ?_
    rintro e w1 ⟨rfl, hb⟩
    have HB := Lib.hid hb
    clear hb
    go_wp2_with fail
    refine (sameI_yes u _ [] _ HG.out (HU.out.below HB.out) (CameI.nil _)).mono ?_
    rintro e w2 ⟨rfl, q, hw⟩
    subst hw
    have HB2 := Lib.hid (kbelow_dN HB.out q)
    go_wp2_with fail
    go_ret
    exact ⟨kret_bool (by first | rfl | simp), HB2.out⟩
/-- What Void's and the reference's answers have in common. -/
def VoidSame (w' : World) (v u : Value) (l : List Sl) (x : Int) (c : Bool) : Prop := (voidE l x c ≠ 0 → v = .slice none 0 0 ∧ u = .slice none 0 0) ∧ (voidE l x c = 0 → SlsIn w' v (voidL l x) ∧ CameI w' u (voidG l x))
theorem VoidRet.same {w' : World} {B : Nat} {v u : Value} {l : List Sl} {x : Int} {c : Bool} (h : VoidRet w' B v u l x c) : VoidSame w' v u l x c := ⟨h.1, fun he => ⟨by obtain ⟨D, h1⟩ := (h.2 he).1; exact h1.sls, (h.2 he).2⟩⟩
theorem VoidSame.below {w w' : World} {v u : Value} {l : List Sl} {x : Int} {c : Bool} (h : VoidSame w v u l x c) (hb : Below w.heap.size w w') : VoidSame w' v u l x c := ⟨h.1, fun he => ⟨(h.2 he).1.below hb, (h.2 he).2.below hb⟩⟩
set_option maxRecDepth 100000 in
set_option maxHeartbeats 2000000 in
theorem voidSlip_ref (a : Option Addr) (n cap : Nat) (l : List Sl) (x : Int) (c : Bool) (w : World) (hc : CameS w a l) (hn : l.length = n) (h0 : slE l = 0) :
    Calls Try.prog 18 #[.slice a n cap, .int .i64 x, .bool c] w fun e w' => ∃ v u, e = .returned (.tuple #[v, u, .int .i64 (voidE l x c)]) ∧ VoidSame w' v u l x c ∧ Below w.heap.size w w' := by
  have HC := Lib.hid hc
  have HN := Lib.hid hn
  have HE : Hid (voidE l x c = if fstN l x < l.length then (if (snth l (fstN l x)).gone = true then 4 else if 1 < (gn l (snth l (fstN l x)).per (fstN l x)).length ∧ c = false then 10 else 0) else 5) := by unfold Hid voidE; rw [if_pos h0]
  have HI : Hid (idxV l x = if fstN l x < l.length then (fstN l x : Int) else -1) := rfl
  have HL : Hid (n ≤ 200) := Lib.hid (by rw [← hn]; exact (slE_ok h0).1)
  clear hc hn h0
  go_enter Try.func18, Try.ntmps18
  go_wp2_with fail
  refine (slipAt_ref a n cap l x _ HC.out HN.out HL.out).mono ?_
  rintro e w2 ⟨rfl, hw⟩
  subst hw
  by_cases hf : fstN l x < l.length
  · rw [if_pos hf] at HE HI
    rw [HI.out]
    have HF := Lib.hid hf
    obtain ⟨k, hk⟩ : ∃ k, fstN l x = k := ⟨_, rfl⟩
    have HK := Lib.hid hk
    rw [hk] at HE HF
    rw [hk]
    rw [HN.out] at hf
    rw [hk] at hf
    have hk1 : (k : Int) < (n : Int) := by omega
    have hk0 : decide ((k : Int) < 0) = false := decide_eq_false (by omega)
    clear hk HI
    obtain ⟨b, off, rfl, hcell⟩ := HC.out.open HN.out (by omega)
    obtain ⟨⟨-, -, -, x3⟩, -⟩ := hcell _ (Below.refl _ _) k hf
    clear hcell
    cases hg : (snth l k).gone
    · rw [hg] at x3
      rw [hg, if_neg (by decide)] at HE
      clear hg
      go_wp2_with fail
      refine (voids_ref _ n cap l k _ HC.out HN.out hf HL.out).mono ?_
      rintro e w3 ⟨g, cy, u, D, rfl, hown, hgr, hb3, -, -⟩
      have HB3 := Lib.hid hb3
      obtain ⟨xv, cv, ev, hat⟩ := hgr.came
      subst ev
      have HCI : Hid (CameI w3 (.slice xv (gn l (snth l k).per k).length cv) (gn l (snth l k).per k)) := ⟨xv, cv, rfl, hat⟩
      have HW := Lib.hid hown.sls
      clear hown hb3 x3 hgr hat
      by_cases h1 : 1 < (gn l (snth l k).per k).length
      · have h1' : (1 : Int) < ((gn l (snth l k).per k).length : Int) := by omega
        cases c
        · rw [if_pos ⟨h1, rfl⟩] at HE
          generalize (gn l (snth l k).per k).length = mm at *
          go_wp2_with fail
          refine bodyPost_ret (v := .tuple #[.slice none 0 0, .slice none 0 0, .int .i64 _]) (by simp [results, Try.results18, go_sem] <;> rfl) rfl ?_
          rw [HE.out]
          exact ⟨_, _, rfl, ⟨fun _ => ⟨rfl, rfl⟩, fun h => absurd h (by rw [HE.out]; decide)⟩, HB3.out⟩
        · rw [if_neg (by simp)] at HE
          go_wp2_with fail
          refine bodyPost_ret (v := .tuple #[.slice (some ⟨g, 0, none⟩) n cy, .slice xv (gn l (snth l k).per k).length cv, .int .i64 0]) (by simp [results, Try.results18, go_sem] <;> rfl) rfl ?_
          rw [HE.out]
          exact ⟨_, _, rfl, ⟨fun h => absurd HE.out h, fun _ => ⟨by unfold voidL; rw [HK.out]; exact HW.out, by unfold voidG; rw [HK.out]; exact HCI.out⟩⟩, HB3.out⟩
      · have h1' : decide ((1 : Int) < ((gn l (snth l k).per k).length : Int)) = false := decide_eq_false (by omega)
        rw [if_neg (fun h => h1 h.1)] at HE
        go_wp2_with fail
        refine bodyPost_ret (v := .tuple #[.slice (some ⟨g, 0, none⟩) n cy, .slice xv (gn l (snth l k).per k).length cv, .int .i64 0]) (by simp [results, Try.results18, go_sem] <;> rfl) rfl ?_
        rw [HE.out]
        exact ⟨_, _, rfl, ⟨fun h => absurd HE.out h, fun _ => ⟨by unfold voidL; rw [HK.out]; exact HW.out, by unfold voidG; rw [HK.out]; exact HCI.out⟩⟩, HB3.out⟩
    · rw [hg] at x3
      rw [hg, if_pos rfl] at HE
      clear hg
      go_wp2_with fail
      refine bodyPost_ret (v := .tuple #[.slice none 0 0, .slice none 0 0, .int .i64 _]) (by simp [results, Try.results18, go_sem] <;> rfl) rfl ?_
      rw [HE.out]
      exact ⟨_, _, rfl, ⟨fun _ => ⟨rfl, rfl⟩, fun h => absurd h (by rw [HE.out]; decide)⟩, Below.refl _ _⟩
  · rw [if_neg hf] at HE HI
    rw [HI.out]
    clear hf HI
    go_wp2_with fail
    refine bodyPost_ret (v := .tuple #[.slice none 0 0, .slice none 0 0, .int .i64 _]) (by simp [results, Try.results18, go_sem] <;> rfl) rfl ?_
    rw [HE.out]
    exact ⟨_, _, rfl, ⟨fun _ => ⟨rfl, rfl⟩, fun h => absurd h (by rw [HE.out]; decide)⟩, Below.refl _ _⟩
end Go.Proofs.Ytiedlmhahdnhaaa
