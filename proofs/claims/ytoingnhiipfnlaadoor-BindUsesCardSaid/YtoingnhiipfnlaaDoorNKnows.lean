/-
  Promise H2: do all names in an expression mean something? The walks of knows and every.
-/
import Derived.Test.YtoingnhiipfnlaaDoorNPl
import Derived.Test.YtoingnhiipfnlaaDoorXRefP
namespace Go.Proofs.YtoingnhiipfnlaaDoor
open Go.RowKit Go.Maps Go.WideMaps

def allN (f : Nat → Bool) : Nat → Bool
  | 0 => true
  | j + 1 => allN f j && f j
theorem allN_yes {f : Nat → Bool} {j : Nat} (h : allN f j = true) : allN f (j + 1) = f j := by simp [allN, h]
theorem allN_no {f : Nat → Bool} {m j : Nat} (hj : j < m) (he : f j = false) : allN f m = false := by
  induction m with
  | zero => omega
  | succ q ih =>
    by_cases e : j = q
    · subst e; simp [allN, he]
    · simp [allN, ih (by omega)]
/-- Does something hold of an expression, and of all that are in it? -/
def Ex.all (P : Int → ByteArray → Bool) : Ex → Bool
  | .no => true
  | .mk k _ s m kid => P k s && allN (fun j => (kid j).all P) m
/-- What a name in an expression of a kind must be. -/
def knowB (gv gl gt : ByteArray → Option Nat) (k : Int) (s : ByteArray) : Bool := if k = 2 then (gv s).isSome else if k = 3 then (gl s).isSome else if k = 5 then (gt s).isSome else true
/-- The scope in its box: the maps of values, of lines, of tables. -/
def Sc (w : World) (sb bv bl bt nv nl nt : Nat) (gv gl gt : ByteArray → Option Nat) : Prop := sb < w.heap.size ∧ w.cell? ⟨sb, 0, none⟩ = some (.map (some bv)) ∧ w.cell? ⟨sb, 1, none⟩ = some (.map (some bl)) ∧ w.cell? ⟨sb, 2, none⟩ = some (.map (some bt)) ∧ MapIs w bv nv gv ∧ MapIs w bl nl gl ∧ MapIs w bt nt gt
theorem Sc.below {w w' : World} {sb bv bl bt nv nl nt : Nat} {gv gl gt : ByteArray → Option Nat} (h : Sc w sb bv bl bt nv nl nt gv gl gt) (hb : Below w.heap.size w w') : Sc w' sb bv bl bt nv nl nt gv gl gt :=
  ⟨Nat.lt_of_lt_of_le h.1 hb.size, (hb.cell (p := ⟨sb, 0, none⟩) h.1).trans h.2.1, (hb.cell (p := ⟨sb, 1, none⟩) h.1).trans h.2.2.1, (hb.cell (p := ⟨sb, 2, none⟩) h.1).trans h.2.2.2.1, h.2.2.2.2.1.below hb, h.2.2.2.2.2.1.below hb, h.2.2.2.2.2.2.below hb⟩
set_option maxRecDepth 100000 in
set_option maxHeartbeats 1000000 in
theorem knows1_any (k n : Int) (s : ByteArray) (a : Option Addr) (m c sb bv bl bt nv nl nt : Nat) (gv gl gt : ByteArray → Option Nat) (w : World) (hs : s.size ≤ maxLen) (hsc : Sc w sb bv bl bt nv nl nt gv gl gt) :
    Calls Tryd.prog 74 #[.agg #[.int .i64 k, .int .i64 n, .string s, .slice a m c], .pointer (some ⟨sb, 0, none⟩)] w fun e w' => e = .returned (.bool (knowB gv gl gt k s)) ∧ Below w.heap.size w w' := by
  have HB0 := Lib.hid (kbelow_box w (.cells #[.int .i64 k, .int .i64 n, .string s, .slice a m c] 50))
  obtain ⟨_, y0, y1, y2, m0, m1, m2⟩ := hsc.below HB0.out
  have hkey := key_of hs
  clear hsc
  by_cases hk : k = 2
  · subst hk
    have HR : Hid (knowB gv gl gt 2 s = (gv s).isSome) := rfl
    obtain ⟨D, hown, hD⟩ := m0
    have hD1 := (hD s).1
    have HD1 := Lib.hid hD1
    clear hD hD1
    go_enter Tryd.func74, Tryd.ntmps74
    go_wp2_with (first
      | (at_lookup; refine wpList_lookup_own_ok_int _ rfl _ _ 60 rfl 9 3 .i64 strLaw Tryd.underlying60 Tryd.underlying3 (zeroInt _) _ _ _ rfl hown _ _ rfl hkey ?_; intro c0 hat hwc))
    go_ret
    exact ⟨kret_bool (by rw [HR.out, ← HD1.out]), HB0.out⟩
  · have hkB : decide (k = 2) = false := decide_eq_false hk
    have hkE : (k == 2) = false := by simpa using hk
    have HK2 := Lib.hid hk
    clear hk
    by_cases hk : k = 3
    · subst hk
      have HR : Hid (knowB gv gl gt 3 s = (gl s).isSome) := rfl
      obtain ⟨D, hown, hD⟩ := m1
      have hD1 := (hD s).1
      have HD1 := Lib.hid hD1
      clear hD hD1
      go_enter Tryd.func74, Tryd.ntmps74
      go_wp2_with (first
        | (at_lookup; refine wpList_lookup_own_ok_int _ rfl _ _ 60 rfl 9 3 .i64 strLaw Tryd.underlying60 Tryd.underlying3 (zeroInt _) _ _ _ rfl hown _ _ rfl hkey ?_; intro c0 hat hwc))
      go_ret
      exact ⟨kret_bool (by rw [HR.out, ← HD1.out]), HB0.out⟩
    · have hk3B : decide (k = 3) = false := decide_eq_false hk
      have hk3E : (k == 3) = false := by simpa using hk
      have HK3 := Lib.hid hk
      clear hk
      by_cases hk : k = 5
      · subst hk
        have HR : Hid (knowB gv gl gt 5 s = (gt s).isSome) := rfl
        obtain ⟨D, hown, hD⟩ := m2
        have hD1 := (hD s).1
        have HD1 := Lib.hid hD1
        clear hD hD1
        go_enter Tryd.func74, Tryd.ntmps74
        go_wp2_with (first
          | (at_lookup; refine wpList_lookup_own_ok_int _ rfl _ _ 60 rfl 9 3 .i64 strLaw Tryd.underlying60 Tryd.underlying3 (zeroInt _) _ _ _ rfl hown _ _ rfl hkey ?_; intro c0 hat hwc))
        go_ret
        exact ⟨kret_bool (by rw [HR.out, ← HD1.out]), HB0.out⟩
      · have hk5B : decide (k = 5) = false := decide_eq_false hk
        have hk5E : (k == 5) = false := by simpa using hk
        have HR : Hid (knowB gv gl gt k s = true) := by unfold Hid knowB; rw [if_neg HK2.out, if_neg HK3.out, if_neg hk]
        go_enter Tryd.func74, Tryd.ntmps74
        go_wp2_with fail
        go_ret
        exact ⟨kret_bool HR.out.symm, HB0.out⟩
theorem all_mk (P : Int → ByteArray → Bool) (k n : Int) (s : ByteArray) (m : Nat) (kid : Nat → Ex) : (Ex.mk k n s m kid).all P = (P k s && allN (fun j => (kid j).all P) m) := by rw [Ex.all]
set_option maxRecDepth 100000 in
set_option maxHeartbeats 2000000 in
theorem every_knows (x : Ex) : ∀ (a : Option Addr) (c sb bv bl bt nv nl nt : Nat) (gv gl gt : ByteArray → Option Nat) (w : World), Sc w sb bv bl bt nv nl nt gv gl gt → KidsAt w x a →
    Calls Tryd.prog 73 #[.agg #[.int .i64 x.k, .int .i64 x.n, .string x.s, .slice a x.m c], .func (.func 74) #[] #[.pointer (some ⟨sb, 0, none⟩)]] w fun e w' => e = .returned (.bool (x.all (knowB gv gl gt))) ∧ Below w.heap.size w w' := by
  induction x with
  | no => intro a c sb bv bl bt nv nl nt gv gl gt w _ h; exact h.elim
  | mk k n s m kid ih =>
    intro a c sb bv bl bt nv nl nt gv gl gt w hsc hk
    show Calls Tryd.prog 73 #[.agg #[.int .i64 k, .int .i64 n, .string s, .slice a m c], .func (.func 74) #[] #[.pointer (some ⟨sb, 0, none⟩)]] w _
    have hm : m ≤ 9223372036854775807 := by have := hk.many; unfold maxLen at this; exact this
    have HSZ : Hid (s.size ≤ maxLen) := Lib.hid hk.name
    have HK := Lib.hid hk
    have HSC := Lib.hid hsc
    have HB0 := Lib.hid (kbelow_box w (.cells #[.int .i64 k, .int .i64 n, .string s, .slice a m c] 50))
    have HX0 := Lib.hid (XBox.made w k n s a m c 50)
    have HM := Lib.hid (all_mk (knowB gv gl gt) k n s m kid)
    have HIH := Lib.hid ih
    clear hk ih hsc
    generalize (Ex.mk k n s m kid).all (knowB gv gl gt) = z at *
    go_enter Tryd.func73, Tryd.ntmps73
    go_wp2_with fail
    refine (knows1_any k n s a m c sb bv bl bt nv nl nt gv gl gt _ HSZ.out (HSC.out.below HB0.out)).mono ?_
    rintro e w1 ⟨rfl, hb1⟩
    have HB1 := Lib.hid (HB0.out.trans (hb1.mono HB0.out.size))
    obtain ⟨_, y0, y1, y2, y3⟩ := HX0.out.below hb1
    clear hb1 HX0 HB0
    cases hp : knowB gv gl gt k s
    · have HR : Hid (z = false) := by unfold Hid; rw [HM.out, hp]; rfl
      go_wp2_with fail
      go_ret
      exact ⟨kret_bool HR.out.symm, HB1.out⟩
    · have HZ : Hid (z = allN (fun j => (kid j).all (knowB gv gl gt)) m) := by unfold Hid; rw [HM.out, hp]; rfl
      clear HM
      go_wp2_with fail
      go_loopw [14] (fun i wr => ∃ j : Nat, j ≤ m ∧ i = .int .i64 j ∧ allN (fun j => (kid j).all (knowB gv gl gt)) j = true ∧ Below w.heap.size w wr) (fun i _ => m - (intOf i).toNat)
      case atStart => exact ⟨0, Nat.zero_le _, rfl, rfl, HB1.out⟩
      case round =>
        obtain ⟨j, hj, rfl, hf, hb⟩ := hrel
        have HF := Lib.hid hf
        have HB := Lib.hid hb
        clear hf hb
        by_cases hlt : j < m
        · have hlt' : (j : Int) < (m : Int) := by omega
          obtain ⟨b, off, rfl, hcell⟩ := HK.out.open (show 0 < m by omega)
          obtain ⟨aj, cj, ⟨x0, x1, x2, x3⟩, hkj⟩ := hcell wr HB.out j hlt
          have HKJ := Lib.hid hkj
          clear hcell hkj
          have x0' : wr.cell? ⟨b, off + j * 4, none⟩ = some (.int .i64 (kid j).k) := x0
          have x1' : wr.cell? ⟨b, off + j * 4 + 1, none⟩ = some (.int .i64 (kid j).n) := x1
          have x2' : wr.cell? ⟨b, off + j * 4 + 2, none⟩ = some (.string (kid j).s) := x2
          have x3' : wr.cell? ⟨b, off + j * 4 + 3, none⟩ = some (.slice aj (kid j).m cj) := x3
          clear x0 x1 x2 x3
          have HBJ := Lib.hid (kbelow_box wr (.cells #[.int .i64 (kid j).k, .int .i64 (kid j).n, .string (kid j).s, .slice aj (kid j).m cj] 50))
          go_wp2_with fail
          refine (HIH.out j aj cj sb bv bl bt nv nl nt gv gl gt _ ((HSC.out.below HB.out).below HBJ.out) (HKJ.out.below HBJ.out)).mono ?_
          rintro e w9 ⟨rfl, hb9⟩
          have HB9 := Lib.hid (HB.out.trans ((HBJ.out.trans (hb9.mono HBJ.out.size)).mono HB.out.size))
          clear hb9 x0' x1' x2' x3'
          cases hz : (kid j).all (knowB gv gl gt)
          · have HR : Hid (z = false) := by unfold Hid; rw [HZ.out, allN_no (f := fun j => (kid j).all (knowB gv gl gt)) hlt hz]
            go_wp2_with fail
            go_ret
            exact ⟨kret_bool HR.out.symm, HB9.out⟩
          · have HF1 : Hid (allN (fun j => (kid j).all (knowB gv gl gt)) (j + 1) = true) := by unfold Hid; rw [allN_yes HF.out]; exact hz
            go_wp2_with fail
            go_roundw
            case rel => exact ⟨j + 1, by omega, by go_num, HF1.out, HB9.out⟩
            case measure => simp [intOf]; omega
        · have hjm : j = m := by omega
          subst hjm
          have HR : Hid (z = true) := by unfold Hid; rw [HZ.out, HF.out]
          go_wp2_with fail
          go_ret
          exact ⟨kret_bool HR.out.symm, HB.out⟩
set_option maxRecDepth 100000 in
set_option maxHeartbeats 1000000 in
theorem knows_any (x : Ex) (a : Option Addr) (c bv bl bt nv nl nt : Nat) (gv gl gt : ByteArray → Option Nat) (w : World) (hv : MapIs w bv nv gv) (hl : MapIs w bl nl gl) (ht : MapIs w bt nt gt) (hk : KidsAt w x a) :
    Calls Tryd.prog 32 #[.agg #[.map (some bv), .map (some bl), .map (some bt)], .agg #[.int .i64 x.k, .int .i64 x.n, .string x.s, .slice a x.m c]] w fun e w' => e = .returned (.bool (x.all (knowB gv gl gt))) ∧ Below w.heap.size w w' := by
  have HB0 := Lib.hid (kbelow_box w (.cells #[.map (some bv), .map (some bl), .map (some bt)] 65))
  have HSC0 : Hid (Sc (w.alloc (.cells #[.map (some bv), .map (some bl), .map (some bt)] 65)) w.heap.size bv bl bt nv nl nt gv gl gt) := by
    refine ⟨?_, ?_, ?_, ?_, hv.below HB0.out, hl.below HB0.out, ht.below HB0.out⟩ <;> simp
  have HB1 := Lib.hid (HB0.out.alloc HB0.out.size (.cells #[.int .i64 x.k, .int .i64 x.n, .string x.s, .slice a x.m c] 50))
  have HSC1 := Lib.hid (HSC0.out.below (kbelow_box _ (.cells #[.int .i64 x.k, .int .i64 x.n, .string x.s, .slice a x.m c] 50)))
  have HK := Lib.hid hk
  clear hv hl ht hk HSC0
  go_enter Tryd.func32, Tryd.ntmps32
  go_wp2_with fail
  refine (every_knows x a c w.heap.size bv bl bt nv nl nt gv gl gt _ HSC1.out (HK.out.below HB1.out)).mono ?_
  rintro e w1 ⟨rfl, hb1⟩
  have HB2 := Lib.hid (HB1.out.trans (hb1.mono HB1.out.size))
  clear hb1
  go_wp2_with fail
  go_ret
  exact ⟨rfl, HB2.out⟩
end Go.Proofs.YtoingnhiipfnlaaDoor
