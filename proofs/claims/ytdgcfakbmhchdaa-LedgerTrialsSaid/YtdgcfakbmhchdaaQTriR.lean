/-
  Promise Q3: the walk of the reference's TrialOf.
-/
import Derived.Test.YtdgcfakbmhchdaaQZero
import Derived.Test.YtdgcfakbmhchdaaQOn
import Derived.Test.YtdgcfakbmhchdaaSIns
namespace Go.Proofs.Ytdgcfakbmhchdaa
open Go.RowKit Go.Sort

/-- The postings of the first i entries, of whatever day. -/
def vis (l : List En) (i : Nat) : List Am := (l.take i).flatMap En.ps
theorem vis_step {l : List En} {i : Nat} (h : i < l.length) : vis l (i + 1) = vis l i ++ (enth l i).ps := by
  unfold vis
  rw [List.take_add_one, List.flatMap_append]
  congr 1
  simp [enth, List.getD_eq_getElem?_getD, h]
theorem vis_len {l : List En} (h : ∀ r ∈ l, r.ps.length ≤ 20) : ∀ i, i ≤ l.length → (vis l i).length ≤ 20 * i
  | 0, _ => by simp [vis]
  | i + 1, hi => by
    have h1 := vis_len h i (by omega)
    have h2 := h (enth l i) (enth_mem (by omega))
    rw [vis_step (by omega), List.length_append]
    omega
theorem hasN_mem' {s : ByteArray} {l : List Am} {a : Am} (h : a ∈ l) (e : a.name = s) : hasN s l = true := List.any_eq_true.2 ⟨a, h, decide_eq_true (by rw [e])⟩
theorem hasN_vis {l : List En} {s : ByteArray} {f t : Int} (h : hasN s (pst l f t) = true) : hasN s (vis l l.length) = true := by
  obtain ⟨a, ha, e⟩ := hasN_mem h
  obtain ⟨r, hr, hx⟩ := pst_mem ha
  refine hasN_mem' (a := a) ?_ e
  unfold vis
  rw [List.take_length]
  exact List.mem_flatMap.2 ⟨r, hr, hx⟩
/-- Amounts that rise by their names: those of V that do not come to 0 in P. -/
def InvT (F V P : List Am) : Prop := upA F ∧ ∀ x, x ∈ F ↔ hasN x.name V = true ∧ x.mon = sumN x.name P ∧ x.mon ≠ 0
theorem InvT.nil (P : List Am) : InvT [] [] P := ⟨List.Pairwise.nil, fun x => by simp [hasN]⟩
theorem InvT.skip {F V P : List Am} {t : Am} (h : InvT F V P) (hs : sumN t.name P = 0 ∨ ∃ y ∈ F, y.name = t.name) : InvT F (V ++ [t]) P := by
  refine ⟨h.1, fun x => ?_⟩
  rw [h.2 x, hasN_snoc]
  constructor
  · rintro ⟨h1, h2⟩
    exact ⟨by rw [h1]; rfl, h2⟩
  · rintro ⟨h1, h2, h3⟩
    refine ⟨?_, h2, h3⟩
    cases hq : hasN x.name V
    · rw [hq, Bool.false_or] at h1
      have e : t.name = x.name := ba_eq (of_decide_eq_true h1)
      rcases hs with hs | ⟨y, hy, hye⟩
      · rw [e, ← h2] at hs
        exact absurd hs h3
      · have := ((h.2 y).1 hy).1
        rw [hye, e, hq] at this
        exact this
    · rfl
theorem InvT.ins {F V P : List Am} {t : Am} {j : Nat} (h : InvT F V P) (hj : j ≤ F.length) (h1 : ∀ i, i < j → ltS (anth F i).name t.name = true) (h2 : j < F.length → ltS (anth F j).name t.name = false) (h3 : j < F.length → (anth F j).name ≠ t.name) (h0 : sumN t.name P ≠ 0) : InvT (insA j ⟨t.name, sumN t.name P⟩ F) (V ++ [t]) P := by
  obtain ⟨u1, u2, u3⟩ := ins_up (t := ⟨t.name, sumN t.name P⟩) h.1 hj h1 h2 h3
  refine ⟨u1, fun x => ?_⟩
  rw [u2, h.2 x, hasN_snoc]
  constructor
  · rintro (⟨q1, q2⟩ | rfl)
    · exact ⟨by rw [q1]; rfl, q2⟩
    · exact ⟨by simp, rfl, h0⟩
  · rintro ⟨q1, q2, q3⟩
    cases hq : hasN x.name V
    · rw [hq, Bool.false_or] at q1
      have e : t.name = x.name := ba_eq (of_decide_eq_true q1)
      exact .inr (am_ext e.symm (by rw [q2, e]))
    · exact .inl ⟨rfl, q2, q3⟩
theorem InvT.ams {F V P : List Am} (h : InvT F V P) (hv : ∀ s, hasN s P = true → hasN s V = true) (hf : ∀ x ∈ V, x.name.size ≤ maxLen) : AmsOf (sumsS P) F := by
  refine ⟨⟨?_, fun t => ?_⟩, h.1⟩
  · exact h.1.imp fun {a b} h e => by rw [e, ltS_irrefl] at h; cases h
  · rw [h.2]
    constructor
    · rintro ⟨q1, q2, q3⟩
      obtain ⟨a, ha, e⟩ := hasN_mem q1
      refine made_of ?_ q2 q3 (by rw [← e]; exact hf a ha)
      cases hq : hasN t.name P
      · rw [sumN_none hq] at q2
        exact absurd q2 q3
      · rfl
    · intro q
      obtain ⟨q1, q2, q3, _⟩ := made_eq q
      exact ⟨hv _ q1, q2, q3⟩
set_option maxRecDepth 100000 in
set_option maxHeartbeats 2000000 in
theorem amountAt_ref (a : Option Addr) (n cap : Nat) (l : List Am) (s : ByteArray) (w : World) (hc : CameA w a l) (hn : l.length = n) (hm : n ≤ 9223372036854775807) :
    Calls Try.prog 38 #[.slice a n cap, .string s] w fun e w' => ∃ r : Int, e = .returned (.int .i64 r) ∧ ((0 ≤ r ∧ ∃ y ∈ l, y.name = s) ∨ (r = -1 ∧ ∀ y ∈ l, y.name ≠ s)) ∧ w' = w := by
  have HO := Lib.hid (fun h0 => hc.open hn h0)
  have HN := Lib.hid hn
  clear hc hn
  go_enter Try.func38, Try.ntmps38
  go_wp2_with fail
  go_loop [5] (fun i => ∃ q : Nat, q ≤ n ∧ i = .int .i64 q ∧ ∀ z, z < q → (anth l z).name ≠ s) (fun i => n - (intOf i).toNat)
  case atStart => exact ⟨0, Nat.zero_le _, rfl, fun z hz => absurd hz (by omega)⟩
  case round =>
    obtain ⟨q, hq, rfl, hf⟩ := hrel
    have HF := Lib.hid hf
    clear hf
    by_cases hlt : q < n
    · have hlt' : (q : Int) < (n : Int) := by omega
      obtain ⟨b, off, rfl, hcell⟩ := HO.out (by omega)
      obtain ⟨x0, x1⟩ := hcell w (Below.refl _ _) q hlt
      have HMEM : Hid (anth l q ∈ l) := anth_mem (by rw [HN.out]; exact hlt)
      clear hcell
      cases hE : ((anth l q).name.toList == s.toList)
      · have HNE : Hid ((anth l q).name ≠ s) := fun e => by rw [e] at hE; simp at hE
        go_wp2_with fail
        go_round
        case rel => exact ⟨q + 1, by omega, by go_num, fun z hz => by
          by_cases e : z = q
          · subst e; exact HNE.out
          · exact HF.out z (by omega)⟩
        case measure => simp [intOf]; omega
      · have HEQ : Hid ((anth l q).name = s) := by
          unfold Hid
          rw [list_eq_data] at hE
          exact ba_eq (of_decide_eq_true hE)
        go_wp2_with fail
        go_ret
        exact ⟨_, rfl, .inl ⟨by omega, _, HMEM.out, HEQ.out⟩, rfl⟩
    · have hqn : q = n := by omega
      subst hqn
      have hnl : decide ((q : Int) < (q : Int)) = false := decide_eq_false (by omega)
      go_wp2_with fail
      go_ret
      exact ⟨_, rfl, .inr ⟨rfl, fun y hy e => by
        obtain ⟨z, hz, he⟩ := List.mem_iff_getElem.1 hy
        refine HF.out z (by rw [← HN.out]; exact hz) ?_
        rw [anth_get hz, he]
        exact e⟩, rfl⟩
end Go.Proofs.Ytdgcfakbmhchdaa
