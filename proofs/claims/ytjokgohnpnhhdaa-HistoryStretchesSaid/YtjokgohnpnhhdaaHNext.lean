/-
  Promise D3: where what holds can change; walks of nextFrom, Differs and of the reference's SameAt and DiffersAt.
-/
import Derived.Test.YtjokgohnpnhhdaaHRef
namespace Go.Proofs.Ytjokgohnpnhhdaa
open Go.RowKit

theorem best_still (l : List Rw) (s x y : Int) (hxy : x ≤ y) : ∀ k, k ≤ l.length → (∀ j, j < k → (rnth l j).frm ≤ x ∨ y < (rnth l j).frm) → best l y s k = best l x s k
  | 0, _, _ => rfl
  | k + 1, hk, h => by
    rw [best, best, best_still l s x y hxy k (by omega) (fun j hj => h j (by omega))]
    have hc := h k (by omega)
    by_cases e : (rnth l k).frm ≤ x
    · have e2 : (rnth l k).frm ≤ y := by omega
      simp [e, e2]
    · have e2 : ¬ (rnth l k).frm ≤ y := by omega
      simp [e, e2]
/-- Is something known otherwise at a day? -/
def diffB (l : List Rw) (a b d : Int) : Bool := !(decide (atV (best l d a l.length) = atV (best l d b l.length)) && (atS (best l d a l.length) == atS (best l d b l.length)))
theorem diffB_still {l : List Rw} {a b x y : Int} (hxy : x ≤ y) (h : ∀ j, j < l.length → (rnth l j).frm ≤ x ∨ y < (rnth l j).frm) : diffB l a b y = diffB l a b x := by
  unfold diffB
  rw [best_still l a x y hxy _ (Nat.le_refl _) h, best_still l b x y hxy _ (Nat.le_refl _) h]
/-- The first day that differs. -/
def FDiff (l : List Rw) (a b d : Int) (ok : Bool) : Prop := (ok = true ∧ 0 ≤ d ∧ d ≤ 73048 ∧ diffB l a b d = true ∧ ∀ j, 0 ≤ j → j < d → diffB l a b j = false) ∨ (ok = false ∧ d = 0 ∧ ∀ j, 0 ≤ j → j ≤ 73048 → diffB l a b j = false)
theorem FDiff.unique {l : List Rw} {a b d d' : Int} {o o' : Bool} (h : FDiff l a b d o) (h' : FDiff l a b d' o') : d = d' ∧ o = o' := by
  rcases h with ⟨a1, a2, a3, a4, a5⟩ | ⟨a1, a2, a3⟩ <;> rcases h' with ⟨b1, b2, b3, b4, b5⟩ | ⟨b1, b2, b3⟩
  · refine ⟨?_, by rw [a1, b1]⟩
    by_cases h1 : d < d'
    · rw [b5 d a2 h1] at a4; cases a4
    · by_cases h2 : d' < d
      · rw [a5 d' b2 h2] at b4; cases b4
      · omega
  · rw [b3 d a2 a3] at a4; cases a4
  · rw [a3 d' b2 b3] at b4; cases b4
  · exact ⟨by omega, by rw [a1, b1]⟩
/-- The next day at which one of the first k rows begins. -/
def NextF (l : List Rw) (d : Int) (k : Nat) (p : Int) : Prop := d < p ∧ p ≤ 73049 ∧ (p = 73049 ∨ ∃ j, j < k ∧ (rnth l j).frm = p) ∧ ∀ j, j < k → d < (rnth l j).frm → p ≤ (rnth l j).frm
theorem rowB_frm2 {r : Rw} (h : rowB r = true) : r.frm ≤ 73048 := by
  unfold rowB at h
  simp only [Bool.and_eq_true] at h
  exact (dayB_iff.1 h.1.1.1).2

set_option maxRecDepth 100000 in
set_option maxHeartbeats 1000000 in
theorem nextFrom_any (a : Option Addr) (n cap : Nat) (l : List Rw) (d : Int) (w : World) (hc : CameR w a l) (hn : l.length = n) (hm : n ≤ 50) (hok : rowsB l = true) (hd : d ≤ 73048) :
    Calls Try.prog 21 #[.slice a n cap, .int .i64 d] w fun e w' => ∃ p : Int, e = .returned (.int .i64 p) ∧ NextF l d n p ∧ Below w.heap.size w w' := by
  have HO := Lib.hid (fun h0 => hc.open hn h0)
  have HF : Hid (∀ k, k < n → (rnth l k).frm ≤ 73048) := fun k hk => rowB_frm2 (rowsB_nth hok (by omega))
  clear hc hok
  go_enter Try.func21, Try.ntmps21
  go_wp2_with fail
  go_loopw [5, 10] (fun b i wr => ∃ (k : Nat) (p : Int), k ≤ n ∧ i = .int .i64 k ∧ b = .int .i64 p ∧ NextF l d k p ∧ Below w.heap.size w wr) (fun _ i _ => n - (intOf i).toNat)
  case atStart => exact ⟨0, 73049, Nat.zero_le _, rfl, rfl, ⟨by omega, by omega, .inl rfl, fun j hj => by omega⟩, Below.refl _ _⟩
  case round =>
    obtain ⟨k, p, hk, rfl, rfl, ⟨hp1, hp2, hp3, hp4⟩, hb⟩ := hrel
    have HP3 := Lib.hid hp3
    have HP4 := Lib.hid hp4
    have HB := Lib.hid hb
    clear hb hp3 hp4
    by_cases hlt : k < n
    · have hlt' : (k : Int) < (n : Int) := by omega
      obtain ⟨b, off, rfl, hcell⟩ := HO.out (by omega)
      obtain ⟨x0, x1, x2, x3⟩ := hcell wr HB.out k hlt
      have HBA := Lib.hid (HB.out.alloc HB.out.size (.cells #[.int .i64 (rnth l k).frm, .int .i64 (rnth l k).seen, .int .i64 (rnth l k).val, .bool (rnth l k).gone] 24))
      have hf := HF.out k hlt
      clear hcell
      by_cases h1 : d < (rnth l k).frm
      · have HT : Hid (NextF l d (k + 1) (if (rnth l k).frm < p then (rnth l k).frm else p)) := by
          unfold Hid
          by_cases e : (rnth l k).frm < p
          · rw [if_pos e]
            refine ⟨h1, by omega, .inr ⟨k, by omega, rfl⟩, ?_⟩
            intro j hj hdj
            by_cases e : j = k
            · subst e; omega
            · have := HP4.out j (by omega) hdj; omega
          · rw [if_neg e]
            refine ⟨hp1, hp2, ?_, ?_⟩
            · rcases HP3.out with h | ⟨j, hj, he⟩
              · exact .inl h
              · exact .inr ⟨j, by omega, he⟩
            · intro j hj hdj
              by_cases e : j = k
              · subst e; omega
              · exact HP4.out j (by omega) hdj
        go_wp2_with fail
        go_roundw
        case rel => exact ⟨k + 1, _, by omega, by go_num, rfl, HT.out, HBA.out⟩
        case measure => simp [intOf]; omega
      · have HT : Hid (NextF l d (k + 1) p) := by
          refine ⟨hp1, hp2, ?_, ?_⟩
          · rcases HP3.out with h | ⟨j, hj, he⟩
            · exact .inl h
            · exact .inr ⟨j, by omega, he⟩
          · intro j hj hdj
            by_cases e : j = k
            · subst e; omega
            · exact HP4.out j (by omega) hdj
        have h1B : decide (d < (rnth l k).frm) = false := decide_eq_false h1
        go_wp2_with fail
        go_roundw
        case rel => exact ⟨k + 1, _, by omega, by go_num, rfl, HT.out, HBA.out⟩
        case measure => simp [intOf]; omega
    · have hkn : k = n := by omega
      subst hkn
      go_wp2_with fail
      go_ret
      exact ⟨_, rfl, ⟨hp1, hp2, HP3.out, HP4.out⟩, HB.out⟩
end Go.Proofs.Ytjokgohnpnhhdaa
