/-
  Promises L2, L3: walks of All and Least.
-/
import Derived.Test.YtciblhkcchaobaaAAll
namespace Go.Proofs.Ytciblhkcchaobaa
open Go.RowKit

/-- What is taken lies there. -/
def TkAt (w : World) (x : Option Addr) (n : Nat) (L : List Int) : Prop := n = 0 ∨ ∃ gg, x = some ⟨gg, 0, none⟩ ∧ At w gg 0 L
theorem TkAt.below {w w' : World} {x : Option Addr} {n : Nat} {L : List Int} (h : TkAt w x n L) (hb : Below w.heap.size w w') : TkAt w' x n L := by
  rcases h with h | ⟨gg, h1, h2⟩
  · exact .inl h
  · exact .inr ⟨gg, h1, h2.below hb h2.1⟩
theorem GrowF.tk {w : World} {B n : Nat} {x : Option Addr} {c : Nat} {L : List Int} (h : GrowF w B (.slice x n c) n L) : TkAt w x n L := by
  rcases h.form with ⟨h1, h2⟩ | ⟨g, c', h1, h2, h3⟩
  · exact .inl h2
  · cases h1
    exact .inr ⟨g, rfl, h3⟩
/-- What All answers. -/
def AllIs (w' : World) (g k : Int) (l : List Cl) (v : Value) (net er : Int) : Prop :=
  er = claimE g k l ∧ ((claimE g k l ≠ 0 ∧ v = .slice none 0 0 ∧ net = 0) ∨ (claimE g k l = 0 ∧ net = min g k + lft g k l l.length ∧ ∃ x c, v = .slice x l.length c ∧ TkAt w' x l.length (takenL g k l l.length)))
theorem due_b (c : Cl) (w : World) (h0 : 0 ≤ c.want) (h1 : 0 ≤ c.year) (h2 : c.year ≤ 1000000000000) (h3 : c.cap ≤ 1000000000000) :
    Calls Try.prog 26 #[.agg #[.int .i64 c.want, .int .i64 c.owed, .int .i64 c.cap, .int .i64 c.year]] w fun e w' => e = .returned (.int .i64 (due c)) ∧ Below w.heap.size w w' :=
  (due_any c w h0 h1 h2 h3).mono fun _ _ ⟨he, hw⟩ => ⟨he, hw ▸ ubelow_box w _⟩
theorem tri0 {W : World} {b : Nat} {p q r p' : Int} {T : TypeId} (hb : b = W.heap.size) (h : p = p') : (W.alloc (.cells #[.int .i64 p, .int .i64 q, .int .i64 r] T)).cell? ⟨b, 0, none⟩ = some (.int .i64 p') := by subst hb h; simp
theorem tri1 {W : World} {b : Nat} {p q r p' : Int} {T : TypeId} (hb : b = W.heap.size) (h : q = p') : (W.alloc (.cells #[.int .i64 p, .int .i64 q, .int .i64 r] T)).cell? ⟨b, 1, none⟩ = some (.int .i64 p') := by subst hb h; simp
theorem tri2 {W : World} {b : Nat} {p q r p' : Int} {T : TypeId} (hb : b = W.heap.size) (h : r = p') : (W.alloc (.cells #[.int .i64 p, .int .i64 q, .int .i64 r] T)).cell? ⟨b, 2, none⟩ = some (.int .i64 p') := by subst hb h; simp
set_option maxRecDepth 100000 in
set_option maxHeartbeats 2000000 in
theorem All_any (g k : Int) (a : Option Addr) (n cap : Nat) (l : List Cl) (w : World) (hc : CameC w a l) (hn : l.length = n) (hm : n ≤ maxLen) :
    Calls Try.prog 13 #[.int .i64 g, .int .i64 k, .slice a n cap] w fun e w' => ∃ (v : Value) (net er : Int), e = .returned (.tuple #[v, .int .i64 net, .int .i64 er]) ∧ AllIs w' g k l v net er ∧ Below w.heap.size w w' := by
  have HC := Lib.hid hc
  have HM := Lib.hid hm
  have HN := Lib.hid hn
  have hm' : n ≤ 9223372036854775807 := by unfold maxLen at hm; omega
  clear hm hc hn
  go_enter Try.func13, Try.ntmps13
  go_wp2_with fail
  refine (Check_any g k a n cap l _ HC.out HN.out HM.out).mono ?_
  rintro e w1 ⟨rfl, hb1⟩
  have HB1 := Lib.hid hb1
  have HC1 := Lib.hid (HC.out.below hb1)
  clear hb1
  by_cases hE : claimE g k l = 0
  · obtain ⟨z1, ⟨g0, g1⟩, ⟨k0, k1⟩, z4⟩ := claimE_zero hE
    have HE := Lib.hid hE
    have HF := Lib.hid (fine_of hE)
    have HQ := Lib.hid z4
    have hn30 : n ≤ 30 := by rw [← HN.out]; exact z1
    have HO := Lib.hid (fun h0 => HC1.out.open HN.out h0)
    rw [hE]
    clear z1 z4 hE
    have hmk := make_tks n (by omega)
    have HG0 := Lib.hid (made_tks w1 n (B := w1.heap.size) (Nat.le_refl _) (by omega))
    have HBA := Lib.hid (ubelow_box w1 (.cells (madeCells #[.int .i64 0, .int .i64 0, .int .i64 0] (n * 3)) 42))
    have HL0 : Hid (lft g k l 0 = g - min g k) := rfl
    by_cases hkg : k < g
    · have hmin : min g k = k := by omega
      rw [hmin] at HL0
      have HMN := Lib.hid hmin
      clear hmin
      go_wp2_with fail
      go_loopw [11, 12, 36] (fun lv tv iv wr => ∃ j : Nat, j ≤ n ∧ iv = .int .i64 j ∧ lv = .int .i64 (lft g k l j) ∧ GrowF wr w1.heap.size tv j (takenL g k l j) ∧ Below w1.heap.size w1 wr) (fun _ _ iv _ => n - (intOf iv).toNat)
      case atStart => exact ⟨0, Nat.zero_le _, rfl, uval HL0.out.symm, HG0.out, HBA.out⟩
      case round =>
        clear HG0 HBA hmk HL0
        obtain ⟨j, hj, rfl, rfl, hgr, hb⟩ := hrel
        have HG := Lib.hid hgr
        have HB := Lib.hid hb
        obtain ⟨x9, c9, hpv⟩ := hgr.slice
        subst hpv
        clear hgr hb
        have hlb := lft_bd g0 k0 HF.out j (by rw [HN.out]; exact hj)
        by_cases hlt : j < n
        · have hlt' : (j : Int) < (n : Int) := by omega
          obtain ⟨b, off, rfl, hcell⟩ := HO.out (by omega)
          obtain ⟨x0, x1, x2, x3⟩ := hcell wr HB.out j hlt
          clear hcell
          obtain ⟨q1, q2, q3, q4, q5, q6, q7⟩ := HQ.out j (by rw [HN.out]; exact hlt)
          obtain ⟨r1, r2, r3, r4⟩ := HF.out.2 j (by rw [HN.out]; exact hlt)
          have HSL : Hid (lft g k l (j + 1) = lft g k l j - (min (due (cnth l j)) (lft g k l j) + min (cnth l j).owed (lft g k l j - min (due (cnth l j)) (lft g k l j)))) := rfl
          have HST : Hid (takenL g k l (j + 1) = takenL g k l j ++ [min (due (cnth l j)) (lft g k l j), min (cnth l j).owed (lft g k l j - min (due (cnth l j)) (lft g k l j)), due (cnth l j) + (cnth l j).owed - min (due (cnth l j)) (lft g k l j) - min (cnth l j).owed (lft g k l j - min (due (cnth l j)) (lft g k l j))]) := rfl
          go_wp2_with fail
          refine (due_any (cnth l j) _ q1 q5 q6 q7).mono ?_
          rintro e w' ⟨rfl, h'⟩
          subst w'
          generalize due (cnth l j) = d at *
          generalize lft g k l j = L at *
          generalize (cnth l j).owed = o at *
          by_cases h1 : L < d
          · by_cases h2 : 0 < o
            · go_wp2_with (at_builtin; refine wpList_app_tk _ rfl _ _ rfl w1.heap.size j _ (takenL g k l j) rfl ?hgw _ 1 (min d L) (min o (L - min d L)) (d + o - min d L - min o (L - min d L)) rfl ?h0 ?h1 ?h2 ?hl ?hB ?_; rotate_right; intro v9 w9 hg9 hb9; refine Hid.out ?_)
              case hgw => exact ((HG.out.alloc _).alloc _).alloc _
              case h0 => exact tri0 (by simp) (by omega)
              case h1 => exact tri1 (by simp) (by omega)
              case h2 => exact tri2 (by simp) (by omega)
              case hl => omega
              case hB => have := HB.out.size; simp; omega
              obtain ⟨y9, d9, rfl⟩ := hg9.slice
              have HG9 := Lib.hid hg9
              have HB9 := Lib.hid ((((HB.out.alloc HB.out.size _).alloc (by have := HB.out.size; simp; omega) _).alloc (by have := HB.out.size; simp; omega) _).trans hb9)
              clear hg9 hb9
              refine Lib.hid ?_
              go_wp2_with fail
              go_roundw
              case rel => exact ⟨j + 1, by omega, by go_num, uval (by rw [HSL.out]; omega), by rw [HST.out]; exact HG9.out, HB9.out⟩
              case measure => simp [intOf]; omega
            · go_wp2_with (at_builtin; refine wpList_app_tk _ rfl _ _ rfl w1.heap.size j _ (takenL g k l j) rfl ?hgw _ 1 (min d L) (min o (L - min d L)) (d + o - min d L - min o (L - min d L)) rfl ?h0 ?h1 ?h2 ?hl ?hB ?_; rotate_right; intro v9 w9 hg9 hb9; refine Hid.out ?_)
              case hgw => exact ((HG.out.alloc _).alloc _).alloc _
              case h0 => exact tri0 (by simp) (by omega)
              case h1 => exact tri1 (by simp) (by omega)
              case h2 => exact tri2 (by simp) (by omega)
              case hl => omega
              case hB => have := HB.out.size; simp; omega
              obtain ⟨y9, d9, rfl⟩ := hg9.slice
              have HG9 := Lib.hid hg9
              have HB9 := Lib.hid ((((HB.out.alloc HB.out.size _).alloc (by have := HB.out.size; simp; omega) _).alloc (by have := HB.out.size; simp; omega) _).trans hb9)
              clear hg9 hb9
              refine Lib.hid ?_
              go_wp2_with fail
              go_roundw
              case rel => exact ⟨j + 1, by omega, by go_num, uval (by rw [HSL.out]; omega), by rw [HST.out]; exact HG9.out, HB9.out⟩
              case measure => simp [intOf]; omega
          · by_cases h2 : L - d < o
            · go_wp2_with (at_builtin; refine wpList_app_tk _ rfl _ _ rfl w1.heap.size j _ (takenL g k l j) rfl ?hgw _ 1 (min d L) (min o (L - min d L)) (d + o - min d L - min o (L - min d L)) rfl ?h0 ?h1 ?h2 ?hl ?hB ?_; rotate_right; intro v9 w9 hg9 hb9; refine Hid.out ?_)
              case hgw => exact ((HG.out.alloc _).alloc _).alloc _
              case h0 => exact tri0 (by simp) (by omega)
              case h1 => exact tri1 (by simp) (by omega)
              case h2 => exact tri2 (by simp) (by omega)
              case hl => omega
              case hB => have := HB.out.size; simp; omega
              obtain ⟨y9, d9, rfl⟩ := hg9.slice
              have HG9 := Lib.hid hg9
              have HB9 := Lib.hid ((((HB.out.alloc HB.out.size _).alloc (by have := HB.out.size; simp; omega) _).alloc (by have := HB.out.size; simp; omega) _).trans hb9)
              clear hg9 hb9
              refine Lib.hid ?_
              go_wp2_with fail
              go_roundw
              case rel => exact ⟨j + 1, by omega, by go_num, uval (by rw [HSL.out]; omega), by rw [HST.out]; exact HG9.out, HB9.out⟩
              case measure => simp [intOf]; omega
            · go_wp2_with (at_builtin; refine wpList_app_tk _ rfl _ _ rfl w1.heap.size j _ (takenL g k l j) rfl ?hgw _ 1 (min d L) (min o (L - min d L)) (d + o - min d L - min o (L - min d L)) rfl ?h0 ?h1 ?h2 ?hl ?hB ?_; rotate_right; intro v9 w9 hg9 hb9; refine Hid.out ?_)
              case hgw => exact ((HG.out.alloc _).alloc _).alloc _
              case h0 => exact tri0 (by simp) (by omega)
              case h1 => exact tri1 (by simp) (by omega)
              case h2 => exact tri2 (by simp) (by omega)
              case hl => omega
              case hB => have := HB.out.size; simp; omega
              obtain ⟨y9, d9, rfl⟩ := hg9.slice
              have HG9 := Lib.hid hg9
              have HB9 := Lib.hid ((((HB.out.alloc HB.out.size _).alloc (by have := HB.out.size; simp; omega) _).alloc (by have := HB.out.size; simp; omega) _).trans hb9)
              clear hg9 hb9
              refine Lib.hid ?_
              go_wp2_with fail
              go_roundw
              case rel => exact ⟨j + 1, by omega, by go_num, uval (by rw [HSL.out]; omega), by rw [HST.out]; exact HG9.out, HB9.out⟩
              case measure => simp [intOf]; omega
        · obtain rfl : j = n := by omega
          have HTK := Lib.hid HG.out.tk
          have HLL := Lib.hid (lft_bd g0 k0 HF.out)
          clear HLL
          generalize hLL : lft g k l j = L at *
          have HLJ := Lib.hid hLL
          clear hLL
          go_wp2_with fail
          go_ret3
          exact ⟨.slice x9 j c9, _, 0, rfl, ⟨HE.out.symm, .inr ⟨HE.out, by rw [HN.out, HLJ.out, HMN.out], x9, c9, by rw [HN.out], by rw [HN.out]; exact HTK.out⟩⟩, HB1.out.trans (HB.out.mono HB1.out.size)⟩
    · have hmin : min g k = g := by omega
      rw [hmin] at HL0
      have HMN := Lib.hid hmin
      clear hmin
      have hmm : (if g ≤ k then g else k) = g := if_pos (by omega)
      go_wp2_with fail
      go_loopw [11, 12, 36] (fun lv tv iv wr => ∃ j : Nat, j ≤ n ∧ iv = .int .i64 j ∧ lv = .int .i64 (lft g k l j) ∧ GrowF wr w1.heap.size tv j (takenL g k l j) ∧ Below w1.heap.size w1 wr) (fun _ _ iv _ => n - (intOf iv).toNat)
      case atStart => exact ⟨0, Nat.zero_le _, rfl, uval (by rw [HL0.out]; omega), HG0.out, HBA.out⟩
      case round =>
        clear HG0 HBA hmk HL0
        obtain ⟨j, hj, rfl, rfl, hgr, hb⟩ := hrel
        have HG := Lib.hid hgr
        have HB := Lib.hid hb
        obtain ⟨x9, c9, hpv⟩ := hgr.slice
        subst hpv
        clear hgr hb
        have hlb := lft_bd g0 k0 HF.out j (by rw [HN.out]; exact hj)
        by_cases hlt : j < n
        · have hlt' : (j : Int) < (n : Int) := by omega
          obtain ⟨b, off, rfl, hcell⟩ := HO.out (by omega)
          obtain ⟨x0, x1, x2, x3⟩ := hcell wr HB.out j hlt
          clear hcell
          obtain ⟨q1, q2, q3, q4, q5, q6, q7⟩ := HQ.out j (by rw [HN.out]; exact hlt)
          obtain ⟨r1, r2, r3, r4⟩ := HF.out.2 j (by rw [HN.out]; exact hlt)
          have HSL : Hid (lft g k l (j + 1) = lft g k l j - (min (due (cnth l j)) (lft g k l j) + min (cnth l j).owed (lft g k l j - min (due (cnth l j)) (lft g k l j)))) := rfl
          have HST : Hid (takenL g k l (j + 1) = takenL g k l j ++ [min (due (cnth l j)) (lft g k l j), min (cnth l j).owed (lft g k l j - min (due (cnth l j)) (lft g k l j)), due (cnth l j) + (cnth l j).owed - min (due (cnth l j)) (lft g k l j) - min (cnth l j).owed (lft g k l j - min (due (cnth l j)) (lft g k l j))]) := rfl
          go_wp2_with fail
          refine (due_any (cnth l j) _ q1 q5 q6 q7).mono ?_
          rintro e w' ⟨rfl, h'⟩
          subst w'
          generalize due (cnth l j) = d at *
          generalize lft g k l j = L at *
          generalize (cnth l j).owed = o at *
          by_cases h1 : L < d
          · by_cases h2 : 0 < o
            · go_wp2_with (at_builtin; refine wpList_app_tk _ rfl _ _ rfl w1.heap.size j _ (takenL g k l j) rfl ?hgw _ 1 (min d L) (min o (L - min d L)) (d + o - min d L - min o (L - min d L)) rfl ?h0 ?h1 ?h2 ?hl ?hB ?_; rotate_right; intro v9 w9 hg9 hb9; refine Hid.out ?_)
              case hgw => exact ((HG.out.alloc _).alloc _).alloc _
              case h0 => exact tri0 (by simp) (by omega)
              case h1 => exact tri1 (by simp) (by omega)
              case h2 => exact tri2 (by simp) (by omega)
              case hl => omega
              case hB => have := HB.out.size; simp; omega
              obtain ⟨y9, d9, rfl⟩ := hg9.slice
              have HG9 := Lib.hid hg9
              have HB9 := Lib.hid ((((HB.out.alloc HB.out.size _).alloc (by have := HB.out.size; simp; omega) _).alloc (by have := HB.out.size; simp; omega) _).trans hb9)
              clear hg9 hb9
              refine Lib.hid ?_
              go_wp2_with fail
              go_roundw
              case rel => exact ⟨j + 1, by omega, by go_num, uval (by rw [HSL.out]; omega), by rw [HST.out]; exact HG9.out, HB9.out⟩
              case measure => simp [intOf]; omega
            · go_wp2_with (at_builtin; refine wpList_app_tk _ rfl _ _ rfl w1.heap.size j _ (takenL g k l j) rfl ?hgw _ 1 (min d L) (min o (L - min d L)) (d + o - min d L - min o (L - min d L)) rfl ?h0 ?h1 ?h2 ?hl ?hB ?_; rotate_right; intro v9 w9 hg9 hb9; refine Hid.out ?_)
              case hgw => exact ((HG.out.alloc _).alloc _).alloc _
              case h0 => exact tri0 (by simp) (by omega)
              case h1 => exact tri1 (by simp) (by omega)
              case h2 => exact tri2 (by simp) (by omega)
              case hl => omega
              case hB => have := HB.out.size; simp; omega
              obtain ⟨y9, d9, rfl⟩ := hg9.slice
              have HG9 := Lib.hid hg9
              have HB9 := Lib.hid ((((HB.out.alloc HB.out.size _).alloc (by have := HB.out.size; simp; omega) _).alloc (by have := HB.out.size; simp; omega) _).trans hb9)
              clear hg9 hb9
              refine Lib.hid ?_
              go_wp2_with fail
              go_roundw
              case rel => exact ⟨j + 1, by omega, by go_num, uval (by rw [HSL.out]; omega), by rw [HST.out]; exact HG9.out, HB9.out⟩
              case measure => simp [intOf]; omega
          · by_cases h2 : L - d < o
            · go_wp2_with (at_builtin; refine wpList_app_tk _ rfl _ _ rfl w1.heap.size j _ (takenL g k l j) rfl ?hgw _ 1 (min d L) (min o (L - min d L)) (d + o - min d L - min o (L - min d L)) rfl ?h0 ?h1 ?h2 ?hl ?hB ?_; rotate_right; intro v9 w9 hg9 hb9; refine Hid.out ?_)
              case hgw => exact ((HG.out.alloc _).alloc _).alloc _
              case h0 => exact tri0 (by simp) (by omega)
              case h1 => exact tri1 (by simp) (by omega)
              case h2 => exact tri2 (by simp) (by omega)
              case hl => omega
              case hB => have := HB.out.size; simp; omega
              obtain ⟨y9, d9, rfl⟩ := hg9.slice
              have HG9 := Lib.hid hg9
              have HB9 := Lib.hid ((((HB.out.alloc HB.out.size _).alloc (by have := HB.out.size; simp; omega) _).alloc (by have := HB.out.size; simp; omega) _).trans hb9)
              clear hg9 hb9
              refine Lib.hid ?_
              go_wp2_with fail
              go_roundw
              case rel => exact ⟨j + 1, by omega, by go_num, uval (by rw [HSL.out]; omega), by rw [HST.out]; exact HG9.out, HB9.out⟩
              case measure => simp [intOf]; omega
            · go_wp2_with (at_builtin; refine wpList_app_tk _ rfl _ _ rfl w1.heap.size j _ (takenL g k l j) rfl ?hgw _ 1 (min d L) (min o (L - min d L)) (d + o - min d L - min o (L - min d L)) rfl ?h0 ?h1 ?h2 ?hl ?hB ?_; rotate_right; intro v9 w9 hg9 hb9; refine Hid.out ?_)
              case hgw => exact ((HG.out.alloc _).alloc _).alloc _
              case h0 => exact tri0 (by simp) (by omega)
              case h1 => exact tri1 (by simp) (by omega)
              case h2 => exact tri2 (by simp) (by omega)
              case hl => omega
              case hB => have := HB.out.size; simp; omega
              obtain ⟨y9, d9, rfl⟩ := hg9.slice
              have HG9 := Lib.hid hg9
              have HB9 := Lib.hid ((((HB.out.alloc HB.out.size _).alloc (by have := HB.out.size; simp; omega) _).alloc (by have := HB.out.size; simp; omega) _).trans hb9)
              clear hg9 hb9
              refine Lib.hid ?_
              go_wp2_with fail
              go_roundw
              case rel => exact ⟨j + 1, by omega, by go_num, uval (by rw [HSL.out]; omega), by rw [HST.out]; exact HG9.out, HB9.out⟩
              case measure => simp [intOf]; omega
        · obtain rfl : j = n := by omega
          have HTK := Lib.hid HG.out.tk
          have HLL := Lib.hid (lft_bd g0 k0 HF.out)
          clear HLL
          generalize hLL : lft g k l j = L at *
          have HLJ := Lib.hid hLL
          clear hLL
          go_wp2_with fail
          go_ret3
          exact ⟨.slice x9 j c9, _, 0, rfl, ⟨HE.out.symm, .inr ⟨HE.out, by rw [HN.out, HLJ.out, HMN.out], x9, c9, by rw [HN.out], by rw [HN.out]; exact HTK.out⟩⟩, HB1.out.trans (HB.out.mono HB1.out.size)⟩
  · have hne : (claimE g k l != 0) = true := by simp [hE]
    have hne' : decide (claimE g k l = 0) = false := decide_eq_false hE
    go_wp2_with fail
    go_ret3
    exact ⟨_, _, _, rfl, ⟨rfl, .inl ⟨hE, rfl, rfl⟩⟩, HB1.out⟩
end Go.Proofs.Ytciblhkcchaobaa
