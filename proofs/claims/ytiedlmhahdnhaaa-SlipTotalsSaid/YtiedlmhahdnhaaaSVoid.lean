/-
  Promise R3: the walks of copied, of the search for a number, and of voidFrom.
-/
import Derived.Test.YtiedlmhahdnhaaaSOwn
namespace Go.Proofs.Ytiedlmhahdnhaaa
open Go.RowKit Go.Sort

def cellS (l : List Sl) (A : Nat → Option Addr × Nat) (j : Nat) : Value := if j % 5 = 0 then .int .i64 (snth l (j / 5)).num else if j % 5 = 1 then .int .i64 (snth l (j / 5)).per else if j % 5 = 2 then .int .i64 (snth l (j / 5)).run else if j % 5 = 3 then .bool (snth l (j / 5)).gone else .slice (A (j / 5)).1 (snth l (j / 5)).tot.length (A (j / 5)).2
theorem cellS_one (l : List Sl) (A : Nat → Option Addr × Nat) (j : Nat) : (cellS l A j).oneCell' = true := by unfold cellS; (repeat' split) <;> rfl
theorem cellS_of {w : World} {a : Option Addr} {l : List Sl} {n : Nat} (h : CameS w a l) (hn : l.length = n) : ∃ A : Nat → Option Addr × Nat, (n = 0 ∨ ∃ b off, a = some ⟨b, off, none⟩ ∧ ∀ j, j < n * 5 → w.cell? ⟨b, off + j, none⟩ = some (cellS l A j)) ∧ ∀ j, j < n → PsAt w (A j).1 (snth l j).tot := by
  subst hn
  rcases h with h | ⟨b, off, rfl, hb, h⟩
  · exact ⟨fun _ => (none, 0), .inl h, fun j hj => by omega⟩
  · have each : ∀ j, j < l.length → ∃ p : Option Addr × Nat, w.cell? ⟨b, off + j * 5 + 4, none⟩ = some (.slice p.1 (snth l j).tot.length p.2) ∧ PsAt w p.1 (snth l j).tot := fun j hj => by
      obtain ⟨_, a, c, h1, h2⟩ := h j hj
      exact ⟨(a, c), h1, h2⟩
    haveI : Inhabited (Option Addr × Nat) := ⟨(none, 0)⟩
    obtain ⟨A, hA⟩ := Deep.choose_lt each
    refine ⟨A, .inr ⟨b, off, rfl, fun j hj => ?_⟩, fun j hj => (hA j hj).2⟩
    have hk : j / 5 < l.length := by omega
    obtain ⟨⟨h0, h1, h2, h3⟩, _⟩ := h (j / 5) hk
    have h4 := (hA (j / 5) hk).1
    have hc : j % 5 = 0 ∨ j % 5 = 1 ∨ j % 5 = 2 ∨ j % 5 = 3 ∨ j % 5 = 4 := by omega
    unfold cellS
    rcases hc with hc | hc | hc | hc | hc <;> rw [hc]
    · rw [if_pos rfl, show off + j = off + j / 5 * 5 by omega]; exact h0
    · rw [if_neg (by decide), if_pos rfl, show off + j = off + j / 5 * 5 + 1 by omega]; exact h1
    · rw [if_neg (by decide), if_neg (by decide), if_pos rfl, show off + j = off + j / 5 * 5 + 2 by omega]; exact h2
    · rw [if_neg (by decide), if_neg (by decide), if_neg (by decide), if_pos rfl, show off + j = off + j / 5 * 5 + 3 by omega]; exact h3
    · rw [if_neg (by decide), if_neg (by decide), if_neg (by decide), if_neg (by decide), show off + j = off + j / 5 * 5 + 4 by omega]; exact h4
theorem psAt_off {w : World} {a : Option Addr} {l : List Am} {g D : Nat} (h : PsAt w a l) (hg : w.heap.size ≤ g) (hD : w.heap.size ≤ D) : Off D g a l := by
  rcases h.1 with h | ⟨b, off, rfl, hat⟩
  · exact .inl h
  · exact .inr ⟨b, off, rfl, by have := hat.1; omega, by have := hat.1; omega⟩
theorem own_of_clone {w w' : World} {v : Value} {l : List Sl} {n : Nat} {A : Nat → Option Addr × Nat} (hcl : ClonIs w' w.heap.size 5 v n (cellS l A)) (hn : l.length = n) (hA : ∀ j, j < n → PsAt w (A j).1 (snth l j).tot) (hb : Go.RowKit.Below w.heap.size w w') : ∃ x c, v = .slice x n c ∧ OwnS w' w.heap.size w'.heap.size 0 v l := by
  subst hn
  rcases hcl with ⟨rfl, h0⟩ | ⟨g, c, rfl, hB, hg, hc⟩
  · exact ⟨none, 0, by rw [h0], .inl ⟨rfl, List.eq_nil_of_length_eq_zero h0⟩⟩
  · refine ⟨_, c, rfl, .inr ⟨g, c, rfl, hB, hg, Nat.le_refl _, fun j hj => ?_, fun j i hj hi => (hc (j * 5 + i) (by omega)).2⟩⟩
    have q : ∀ i, i < 5 → w'.cell? ⟨g, j * 5 + i, none⟩ = some (cellS l A (j * 5 + i)) := fun i hi => (hc (j * 5 + i) (by omega)).1
    have q0 := q 0 (by omega)
    have q1 := q 1 (by omega)
    have q2 := q 2 (by omega)
    have q3 := q 3 (by omega)
    have q4 := q 4 (by omega)
    unfold cellS at q0 q1 q2 q3 q4
    rw [show (j * 5 + 0) / 5 = j by omega, if_pos (by omega)] at q0
    rw [show (j * 5 + 1) / 5 = j by omega, if_neg (by omega), if_pos (by omega)] at q1
    rw [show (j * 5 + 2) / 5 = j by omega, if_neg (by omega), if_neg (by omega), if_pos (by omega)] at q2
    rw [show (j * 5 + 3) / 5 = j by omega, if_neg (by omega), if_neg (by omega), if_neg (by omega), if_pos (by omega)] at q3
    rw [show (j * 5 + 4) / 5 = j by omega, if_neg (by omega), if_neg (by omega), if_neg (by omega), if_neg (by omega)] at q4
    exact ⟨⟨q0, q1, q2, q3⟩, _, _, q4, (hA j hj).below hb, psAt_off (hA j hj) hB hb.size, fun h => by omega⟩
theorem ams_of_clone {w : World} {B : Nat} {v : Value} {l : List Am} (hcl : ClonIs w B 2 v l.length (cellA l)) (hf : NamesFit l) (hm : l.length ≤ maxLen) : ∃ x c, v = .slice x l.length c ∧ PsAt w x l ∧ Fre w B x l ∧ ∀ g, g < B → Off w.heap.size g x l := by
  rcases hcl with ⟨rfl, h0⟩ | ⟨g, c, rfl, hB, hg, hc⟩
  · exact ⟨none, 0, by rw [h0], ⟨.inl h0, hf, hm⟩, .inl h0, fun _ _ => .inl h0⟩
  · refine ⟨_, c, rfl, ⟨.inr ⟨g, 0, rfl, aat_of_cells hg (fun j hj => by rw [Nat.zero_add]; exact (hc j hj).1)⟩, hf, hm⟩, .inr ⟨g, 0, rfl, hB, hg, fun i hi => by rw [Nat.zero_add]; exact (hc (i * 2 + 1) (by omega)).2⟩, fun g' hg' => .inr ⟨g, 0, rfl, by omega, hg⟩⟩
theorem cellA_src {w : World} {a : Option Addr} {l : List Am} (h : CameA w a l) : l.length = 0 ∨ ∃ b off, a = some ⟨b, off, none⟩ ∧ ∀ j, j < l.length * 2 → w.cell? ⟨b, off + j, none⟩ = some (cellA l j) := by
  rcases h with h | ⟨b, off, rfl, h⟩
  · exact .inl h
  · exact .inr ⟨b, off, rfl, cellA_of h⟩
set_option maxRecDepth 100000 in
set_option maxHeartbeats 2000000 in
theorem copied_any (a : Option Addr) (n cap : Nat) (l : List Sl) (w : World) (hc : CameS w a l) (hn : l.length = n) (h2 : n ≤ 200) (hok : ∀ j, j < n → (snth l j).tot.length ≤ 30) :
    Calls Try.prog 38 #[.slice a n cap] w fun e w' => ∃ x c D, e = .returned (.slice x n c) ∧ OwnS w' w.heap.size D n (.slice x n c) l ∧ Go.RowKit.Below w.heap.size w w' := by
  have HO := Lib.hid (fun h0 => hc.open hn h0)
  have HN := Lib.hid hn
  have HOK := Lib.hid hok
  obtain ⟨A, hsrc, hA⟩ := cellS_of hc hn
  have HSRC := Lib.hid hsrc
  have HA := Lib.hid hA
  clear hc hn hok hsrc hA
  go_enter Try.func38, Try.ntmps38
  go_wp2_with fail
  refine (cloneSl a n cap (cellS l A) _ HSRC.out (cellS_one l A) (by omega)).mono ?_
  rintro e w1 ⟨v, rfl, hcl, hb⟩
  obtain ⟨x, c, rfl, hown⟩ := own_of_clone hcl HN.out HA.out hb
  have HB1 := Lib.hid hb
  have HO1 := Lib.hid hown
  clear hcl hb hown HSRC HA
  go_wp2_with fail
  go_loopw [10] (fun i wr => ∃ k D : Nat, k ≤ n ∧ i = .int .i64 k ∧ OwnS wr w.heap.size D k (.slice x n c) l ∧ Go.RowKit.Below w.heap.size w wr) (fun i _ => n - (intOf i).toNat)
  case atStart => exact ⟨0, _, Nat.zero_le _, rfl, HO1.out, HB1.out⟩
  case round =>
    clear HO1 HB1
    obtain ⟨k, D, hk, rfl, hown, hb⟩ := hrel
    have HW := Lib.hid hown
    have HB := Lib.hid hb
    clear hb
    by_cases hlt : k < n
    · have hlt' : (k : Int) < (n : Int) := by omega
      have hkl : k < l.length := by rw [HN.out]; exact hlt
      have HKL := Lib.hid hkl
      obtain ⟨g, rfl, -, hBg, hgD, hDW, -, -⟩ := hown.at (by omega)
      have HBG := Lib.hid hBg
      have HGD := Lib.hid hgD
      have HDW := Lib.hid hDW
      obtain ⟨b, off, rfl, hcell⟩ := HO.out (by omega)
      obtain ⟨⟨x0, x1, x2, x3⟩, ax, cx, x4, hp⟩ := hcell wr HB.out k hlt
      have HP := Lib.hid hp
      have HT := Lib.hid (HOK.out k hlt)
      have HBJ := Lib.hid (kbelow_box wr (.cells #[.int .i64 (snth l k).num, .int .i64 (snth l k).per, .int .i64 (snth l k).run, .bool (snth l k).gone, .slice ax (snth l k).tot.length cx] 44))
      clear hcell hp hown hBg hgD hDW hkl
      go_wp2_with fail
      refine (cloneAm ax (snth l k).tot.length cx (cellA (snth l k).tot) _ (cellA_src (HP.out.below HBJ.out).1) (cellA_one _) (by have := HT.out; omega)).mono ?_
      rintro e w1 ⟨v, rfl, hcl, hb1⟩
      obtain ⟨x', c', rfl, hps, hfre, hoff⟩ := ams_of_clone hcl HP.out.2.1 HP.out.2.2
      have hb2 := HBJ.out.trans (hb1.mono HBJ.out.size)
      have hown1 := HW.out.below hb2 HDW.out
      have hown2 := hown1.wide (D2 := w1.heap.size) (Nat.le_trans HDW.out hb2.size) (Nat.le_refl _)
      have hput := hown2.putTot HKL.out x' c' hps (hoff g (by have := HGD.out; have := HDW.out; simp; omega)) (by
        rcases hfre with h | ⟨b', o', e, r1, r2⟩
        · exact .inl h
        · exact .inr ⟨b', o', e, by have := HB.out.size; have := HBJ.out.size; omega, r2⟩)
      have HPUT := Lib.hid hput
      have HB2 := Lib.hid (HB.out.trans (hb2.mono HB.out.size))
      obtain ⟨g', e', -, -, -, -, hrow, hfz⟩ := hown1.at (by have := HKL.out; omega)
      cases e'
      obtain ⟨-, _, _, z4, -⟩ := hrow k HKL.out
      have hf4 := hfz k 4 HKL.out (by omega)
      clear hcl hb1 hb2 hown1 hown2 hput hrow hfz hps hfre hoff HBJ HW
      generalize (snth l k).tot.length = mm at *
      go_wp2_with fail
      go_roundw
      case rel => exact ⟨k + 1, _, by omega, by go_num, HPUT.out, HB2.out.setCell HBG.out _⟩
      case measure => simp [intOf]; omega
    · have hkn : k = n := by omega
      subst hkn
      clear hown
      go_wp2_with fail
      go_ret
      exact ⟨_, _, _, rfl, HW.out, HB.out⟩
/-- Where a number stands; as far on as there are slips: it does not. -/
def fstN : List Sl → Int → Nat
  | [], _ => 0
  | r :: l, x => if r.num = x then 0 else fstN l x + 1
theorem fstN_at : ∀ {l : List Sl} {x : Int} {k : Nat}, (∀ j, j < k → (snth l j).num ≠ x) → k < l.length → (snth l k).num = x → fstN l x = k
  | [], x, k, _, hk, _ => by simp at hk
  | r :: l, x, 0, _, _, h => by rw [fstN, if_pos (by exact h)]
  | r :: l, x, k + 1, hj, hk, h => by
    rw [fstN, if_neg (by exact hj 0 (by omega)), fstN_at (l := l) (x := x) (k := k) (fun j h' => hj (j + 1) (by omega)) (by simpa using hk) h]
theorem fstN_none : ∀ {l : List Sl} {x : Int}, (∀ j, j < l.length → (snth l j).num ≠ x) → fstN l x = l.length
  | [], x, _ => rfl
  | r :: l, x, hj => by
    rw [fstN, if_neg (by exact hj 0 (by simp)), fstN_none (l := l) (x := x) (fun j h' => hj (j + 1) (by simpa using h')), List.length_cons]
def idxV (l : List Sl) (x : Int) : Int := if fstN l x < l.length then (fstN l x : Int) else -1
set_option maxHeartbeats 1000000 in
theorem isIt_any (nu pe ru x : Int) (g : Bool) (a : Option Addr) (n c bx : Nat) (w : World) (hx : w.cell? ⟨bx, 0, none⟩ = some (.int .i64 x)) :
    Calls Try.prog 37 #[.agg #[.int .i64 nu, .int .i64 pe, .int .i64 ru, .bool g, .slice a n c], .pointer (some ⟨bx, 0, none⟩)] w fun e w' => e = .returned (.bool (nu == x)) ∧ Below w.heap.size w w' := by
  have hx' : (w.alloc (.cells #[.int .i64 nu, .int .i64 pe, .int .i64 ru, .bool g, .slice a n c] 44)).cell? ⟨bx, 0, none⟩ = some (.int .i64 x) := ((kbelow_box w _).cell (p := ⟨bx, 0, none⟩) (oblt_of_cell hx)).trans hx
  go_enter Try.func37, Try.ntmps37
  go_wp2_with fail
  go_ret
  exact ⟨rfl, kbelow_box _ _⟩
set_option maxRecDepth 100000 in
set_option maxHeartbeats 1000000 in
theorem indexNum (a : Option Addr) (n cap : Nat) (l : List Sl) (x : Int) (bx : Nat) (w : World) (hc : CameS w a l) (hn : l.length = n) (hm : n ≤ 200) (hx : w.cell? ⟨bx, 0, none⟩ = some (.int .i64 x)) :
    Calls Try.prog 36 #[.slice a n cap, .func (.func 37) #[] #[.pointer (some ⟨bx, 0, none⟩)]] w fun e w' => e = .returned (.int .i64 (idxV l x)) ∧ Below w.heap.size w w' := by
  have HO := Lib.hid (fun h0 => hc.open hn h0)
  have HN := Lib.hid hn
  have HX : Hid (∀ w', Below w.heap.size w w' → w'.cell? ⟨bx, 0, none⟩ = some (.int .i64 x)) := Lib.hid (fun w' hb => (hb.cell (p := ⟨bx, 0, none⟩) (oblt_of_cell hx)).trans hx)
  clear hc hn hx
  go_enter Try.func36, Try.ntmps36
  go_wp2_with fail
  go_loopw [8] (fun i wr => ∃ k : Nat, k ≤ n ∧ i = .int .i64 k ∧ (∀ j, j < k → (snth l j).num ≠ x) ∧ Below w.heap.size w wr) (fun i _ => n - (intOf i).toNat)
  case atStart => exact ⟨0, Nat.zero_le _, rfl, fun j hj => by omega, Below.refl _ _⟩
  case round =>
    obtain ⟨k, hk, rfl, hall, hb⟩ := hrel
    have HA := Lib.hid hall
    have HB := Lib.hid hb
    clear hall hb
    by_cases hlt : k < n
    · have hlt' : (k : Int) < (n : Int) := by omega
      obtain ⟨b, off, rfl, hcell⟩ := HO.out (by omega)
      obtain ⟨⟨x0, x1, x2, x3⟩, ax, cx, x4, _⟩ := hcell wr HB.out k hlt
      clear hcell
      by_cases he : (snth l k).num = x
      · have he' : ((snth l k).num == x) = true := by simp [he]
        have HE : Hid (idxV l x = (k : Int)) := Lib.hid (by
          unfold idxV
          rw [fstN_at HA.out (by rw [HN.out]; exact hlt) he, if_pos (by rw [HN.out]; exact hlt)])
        clear he
        go_wp2_with fail
        refine (isIt_any _ _ _ x _ _ _ _ bx _ (HX.out _ HB.out)).mono ?_
        rintro e w1 ⟨rfl, hb1⟩
        have HB1 := Lib.hid (HB.out.trans (hb1.mono HB.out.size))
        rw [he']
        clear hb1 x0 x1 x2 x3 x4
        go_wp2_with fail
        go_ret
        exact ⟨kret_int HE.out.symm, HB1.out⟩
      · have he' : ((snth l k).num == x) = false := by simp [he]
        have HE := Lib.hid he
        clear he
        go_wp2_with fail
        refine (isIt_any _ _ _ x _ _ _ _ bx _ (HX.out _ HB.out)).mono ?_
        rintro e w1 ⟨rfl, hb1⟩
        have HB1 := Lib.hid (HB.out.trans (hb1.mono HB.out.size))
        rw [he']
        clear hb1 x0 x1 x2 x3 x4
        go_wp2_with fail
        go_roundw
        case rel =>
          refine ⟨k + 1, by omega, by go_num, ?_, HB1.out⟩
          intro j hj
          by_cases e : j = k
          · subst e; exact HE.out
          · exact HA.out j (by omega)
        case measure => simp [intOf]; omega
    · have hkn : k = n := by omega
      subst hkn
      have HE : Hid (idxV l x = -1) := Lib.hid (by
        unfold idxV
        rw [fstN_none (fun j hj => HA.out j (by rw [HN.out] at hj; exact hj)), if_neg (by omega)])
      go_wp2_with fail
      go_ret
      exact ⟨kret_int HE.out.symm, HB.out⟩
end Go.Proofs.Ytiedlmhahdnhaaa
