/-
  Promise N5: ahead of the first period that is known otherwise nothing changes: said without memory.
  Lists of the call's own that hold the same: R.Same says so.
  What Fresh answers, as a caller sees it.
-/
import Derived.Test.YtonceehdmnkffaaGreatDoorJO
namespace Go.Proofs.YtonceehdmnkffaaGreatDoor
open Go.RowKit Go.Sort

/-- Where a period is there, so are those ahead of it. -/
theorem at_mono {K A L c c' f t f' t' e : Int} (h : Cal.AtIs K A L c f t 0) (h0 : 0 ≤ c') (hc : c' ≤ c) (h' : Cal.AtIs K A L c' f' t' e) : e = 0 := by
  rcases h with ⟨a, _, _, d⟩ | ⟨hz, ⟨_, _, _, d⟩ | ⟨hk, hp⟩⟩
  · exact absurd d.symm a
  · cases d
  · rcases h' with ⟨a', _⟩ | ⟨_, ⟨hk', _⟩ | ⟨hk', hp'⟩⟩
    · exact absurd hz a'
    · omega
    · rcases hp with ⟨hK, h⟩ | ⟨hK, k0, m0, d0, hcv, h⟩ | ⟨hK, k0, m0, d0, hcv, h⟩ <;> rcases hp' with ⟨hK', h'⟩ | ⟨hK', k1, m1, d1, hcv', h'⟩ | ⟨hK', k1, m1, d1, hcv', h'⟩
      · rcases h with ⟨_, _, _, q⟩ | ⟨q, _⟩
        · omega
        · rcases h' with ⟨q', _⟩ | ⟨_, _, _, q'⟩
          · rcases hK with rfl | rfl <;> omega
          · exact q'
      · omega
      · omega
      · omega
      · obtain ⟨rfl, rfl, rfl⟩ := hcv.unique hcv'
        rcases h with ⟨_, _, _, q⟩ | ⟨q, _⟩
        · omega
        · rcases h' with ⟨q', _⟩ | ⟨_, _, _, q'⟩
          · omega
          · exact q'
      · omega
      · omega
      · omega
      · obtain ⟨rfl, rfl, rfl⟩ := hcv.unique hcv'
        rcases h with ⟨_, _, _, q⟩ | ⟨q, _⟩ | ⟨q, _⟩
        · omega
        · rcases h' with ⟨q', _⟩ | ⟨_, _, _, _, q'⟩ | ⟨_, _, _, _, q'⟩
          · omega
          · exact q'
          · exact q'
        · rcases h' with ⟨q', _⟩ | ⟨_, _, _, _, q'⟩ | ⟨_, _, _, _, q'⟩
          · omega
          · exact q'
          · exact q'
theorem difN_all {l : List In} {day was is : Int} : ∀ {n : Nat}, difN l day was is n = false → ∀ j, j < n → othB (inth l j).rows day was is = false
  | 0, _, j, hj => by omega
  | n + 1, h, j, hj => by
    rw [difN, Bool.or_eq_false_iff] at h
    by_cases e : j = n
    · subst e; exact h.2
    · exact difN_all h.1 j (by omega)
theorem inAms_congr {l : List In} {m m' : Nat → Int} : ∀ {n : Nat}, (∀ j, j < n → m j = m' j) → inAms l m n = inAms l m' n
  | 0, _ => rfl
  | n + 1, h => by rw [inAms, inAms, inAms_congr (fun j hj => h j (by omega)), h n (by omega)]
theorem insAt_same {p : Pl} {f was is : Int} {ni : Nat} (h : difN p.ins f was is ni = false) : insAt p f was ni = insAt p f is ni := by
  refine inAms_congr fun j hj => ?_
  have := difN_all h j hj
  unfold othB at this
  rw [Bool.or_eq_false_iff] at this
  simpa using this.1
/-- The period c is not known otherwise. -/
def SameI (p : Pl) (was is c : Int) (ni : Nat) : Prop := ∃ f t, Cal.AtIs p.K p.A p.L c f t 0 ∧ difN p.ins f was is ni = false
theorem StepIs.seen {p : Pl} {was is : Int} {nl ni : Nat} {y : Int} {s : List Int} {c : Int} {k : Nat} {vs : List Int} (h : StepIs p was nl ni y s c k vs) (hs : SameI p was is c ni) : StepIs p is nl ni y s c k vs := by
  obtain ⟨f, t, d, m, yrs, a1, a2, a3, a4, a5⟩ := h
  obtain ⟨f', t', b1, b2⟩ := hs
  obtain ⟨rfl, rfl, _⟩ := a1.unique b1
  have e : knAt p f was ni yrs = knAt p f is ni yrs := by unfold knAt; rw [insAt_same b2]
  rw [e] at a4 a5
  exact ⟨f, t, d, m, yrs, a1, a2, a3, a4, a5⟩
theorem Runs.seen {p : Pl} {was is frm : Int} {nl ni : Nat} : ∀ {n : Nat} {y : Int} {s : List Int} {o : List (List Int)}, (∀ j : Nat, j < n → SameI p was is (frm + j) ni) → Runs p was frm nl ni n y s o → Runs p is frm nl ni n y s o
  | 0, y, s, o, _, h => by
    obtain ⟨rfl, rfl, rfl⟩ := h.nil
    exact .zero
  | n + 1, y, s, o, hs, h => by
    obtain ⟨y', s', o', k, vs, r, t, rfl, rfl, rfl⟩ := h.inv
    exact (Runs.seen (fun j hj => hs j (by omega)) r).step (t.seen (hs n (by omega)))
theorem Runs.at {p : Pl} {seen frm : Int} {nl ni n : Nat} {y : Int} {s : List Int} {o : List (List Int)} (h : Runs p seen frm nl ni n y s o) {j : Nat} (hj : j < n) : ∃ f t, Cal.AtIs p.K p.A p.L (frm + j) f t 0 := by
  obtain ⟨_, _, r⟩ := h.pre (j + 1) (by omega)
  obtain ⟨_, _, _, _, _, _, ⟨f, t, _, _, _, a, _⟩, _⟩ := r.inv
  exact ⟨f, t, a⟩
theorem FirstIs.plan {p : Pl} {was is k : Int} {ok : Bool} (h : FirstIs p was is k ok 0) : PlanIs p 0 := by
  rcases h with ⟨_, h, _⟩ | ⟨h, _⟩ | ⟨h, _⟩
  · exact absurd rfl h
  · exact h
  · exact h
theorem first_same {p : Pl} {was is k frm : Int} {ok : Bool} {nl ni n : Nat} {y : Int} {s : List Int} {o : List (List Int)} (hF : FirstIs p was is k ok 0) (h3 : p.ins.length = ni) (ha : Runs p was frm nl ni n y s o) (h0 : 0 ≤ frm) {i : Nat} (hi : i < n) (hc : ok = false ∨ frm + i < k) : ∀ j : Nat, j ≤ i → SameI p was is (frm + j) ni := by
  intro j hj
  obtain ⟨f, t, hat⟩ := ha.at (j := j) (by omega)
  have key : ∀ n0 : Nat, (∀ j, j < n0 → SameP p was is j) → frm + j < n0 → SameI p was is (frm + j) ni := by
    intro n0 hn0 hlt
    obtain ⟨f', t', q1, q2⟩ := hn0 (frm + j).toNat (by omega)
    rw [show (((frm + j).toNat : Nat) : Int) = frm + j by omega] at q1
    rw [h3] at q2
    exact ⟨f', t', q1, q2⟩
  rcases hF with ⟨_, h, _⟩ | ⟨_, _, h, _⟩ | ⟨_, _, _, _, ⟨q, n0, rfl, _, hn0, _⟩ | ⟨_, _, n0, _, hn0, hend⟩⟩
  · exact absurd rfl h
  · cases h
  · rcases hc with hc | hc
    · rw [q] at hc; cases hc
    · exact key n0 hn0 (by omega)
  · refine key n0 hn0 ?_
    rcases Int.lt_or_le (frm + j) n0 with q | q
    · exact q
    · exfalso
      rcases hend with rfl | ⟨f', t', e, he, hae⟩
      · have := (at_day hat).2
        omega
      · exact he (at_mono hat (by omega) q hae)
theorem take_out {a b : List (List Int)} {i : Nat} (h : a.take (i + 1) = b.take (i + 1)) : outN a i = outN b i := by
  have e := congrArg (fun l => l[i]?) h
  simp only [List.getElem?_take, show i < i + 1 by omega, if_true] at e
  simp [outN, List.getD_eq_getElem?_getD, e]
theorem ahead_same {p : Pl} {was is k frm : Int} {ok : Bool} {nl ni n : Nat} {ya yb : Int} {sa sb : List Int} {oa ob : List (List Int)} (hF : FirstIs p was is k ok 0) (h1 : p.lns.length = nl) (h3 : p.ins.length = ni) (ha : Runs p was frm nl ni n ya sa oa) (hb : Runs p is frm nl ni n yb sb ob) (h0 : 0 ≤ frm) {i : Nat} (hi : i < n) (hc : ok = false ∨ frm + i < k) : outN oa i = outN ob i := by
  obtain ⟨_, _, ra⟩ := ha.pre (i + 1) (by omega)
  obtain ⟨_, _, rb⟩ := hb.pre (i + 1) (by omega)
  have rc := Runs.seen (is := is) (fun j hj => first_same hF h3 ha h0 hi hc j (by omega)) ra
  exact take_out (Runs.det h1 hF.plan.apart rc rb).2.2
end Go.Proofs.YtonceehdmnkffaaGreatDoor
set_option linter.unusedSimpArgs false
namespace Go.Proofs.YtonceehdmnkffaaGreatDoor
open Go.RowKit Go.Sort

theorem same_zero (x1 x2 : Option Addr) (c1 c2 : Nat) (w : World) : Calls Tryz.prog 25 #[.slice x1 0 c1, .slice x2 0 c2] w fun e w' => e = .returned (.bool true) ∧ w' = w := by
  go_enter Tryz.func25, Tryz.ntmps25
  go_wp2
  go_loop [5] (fun i => i = .int .i64 0) (fun _ => 0)
  case atStart => rfl
  case round =>
    subst hrel
    go_wp2
    go_ret
    exact ⟨rfl, rfl⟩
theorem same_grow {w : World} {B1 B2 : Nat} {v1 v2 : Value} {l : List Int} (h1 : Grow w B1 v1 l) (h2 : Grow w B2 v2 l) (hl : l.length ≤ 1000000000) : Calls Tryz.prog 25 #[v1, v2] w fun e w' => e = .returned (.bool true) ∧ ∃ k, w' = w.drewN k := by
  by_cases h0 : l = []
  · subst h0
    obtain ⟨a1, c1, rfl⟩ := h1.shape
    obtain ⟨a2, c2, rfl⟩ := h2.shape
    refine (same_zero a1 a2 c1 c2 w).mono ?_
    rintro e w' ⟨rfl, rfl⟩
    exact ⟨rfl, 0, rfl⟩
  · obtain ⟨g1, c1, rfl, _, o1⟩ := h1.own (List.length_pos_iff.2 h0)
    obtain ⟨g2, c2, rfl, _, o2⟩ := h2.own (List.length_pos_iff.2 h0)
    exact same_yes g1 0 c1 g2 0 c2 l w hl (o1.at) (o2.at)
end Go.Proofs.YtonceehdmnkffaaGreatDoor
set_option linter.unusedSimpArgs false
namespace Go.Proofs.YtonceehdmnkffaaGreatDoor
open Go.RowKit Go.Sort

theorem GrowR.below {w w' : World} {B : Nat} {v : Value} {l : List Value} (h : GrowR w B v l) (hb : Below w.heap.size w w') : GrowR w' B v l := h.keep fun k hk => hb.block k (h.lt k hk).2
theorem grow_below {w w' : World} {B : Nat} {v : Value} {l : List Int} (h : Grow w B v l) (hb : Below w.heap.size w w') : Grow w' B v l := grow_keep h fun k hk => hb.block k (h.lt k hk).2
/-- Fresh's answer, where it is one: lists of lists in memory. -/
structure Lists (w : World) (g c : Nat) (outs : List (List Int)) (B : Nat) (rows : List Value) : Prop where
  lt : g < w.heap.size
  len : rows.length = outs.length
  cell : ∀ j, j < rows.length → w.cell? ⟨g, j, none⟩ = some (rowN rows j)
  row : ∀ j, j < rows.length → Grow w B (rowN rows j) (outN outs j)
theorem Lists.below {w w' : World} {g c B : Nat} {outs : List (List Int)} {rows : List Value} (h : Lists w g c outs B rows) (hb : Below w.heap.size w w') : Lists w' g c outs B rows :=
  ⟨Nat.lt_of_lt_of_le h.lt hb.size, h.len, fun j hj => (hb.cell (p := ⟨g, j, none⟩) h.lt).trans (h.cell j hj), fun j hj => grow_below (h.row j hj) hb⟩
/-- What Fresh answers: an error and nothing, or lists of what the lines came to. -/
theorem FreshR.lists {p : Pl} {frm to seen : Int} {nl ni : Nat} {w w' : World} {rv : Value} {er : Int} (h : FreshR p frm to seen nl ni w rv er w') :
    (er ≠ 0 ∧ rv = .slice none 0 0) ∨ (er = 0 ∧ PlanIs p 0 ∧ AskOk frm to seen ∧ to - frm < 60 ∧ ∃ (n : Nat) (year : Int) (sums : List Int) (outs : List (List Int)) (rows : List Value) (g c B : Nat), frm + n = to + 1 ∧ Runs p seen frm nl ni n year sums outs ∧ w.heap.size ≤ B ∧ outs.length = n ∧ rv = .slice (some ⟨g, 0, none⟩) n c ∧ w.heap.size ≤ g ∧ n ≤ c ∧ Lists w' g c outs B rows) := by
  rcases h with ⟨h0, h, _⟩ | ⟨h0, hp, ha, h60, n, y, s, outs, rows, B, hn, hr, hB, hg, hl, hrow⟩
  · exact .inl ⟨h0, h⟩
  · refine .inr ⟨h0, hp, ha, h60, n, y, s, outs, rows, ?_⟩
    have hol : outs.length = n := Runs.len hr
    have hn0 : 0 < n := by have := ha.2.2; omega
    rcases hg.form with ⟨_, h2⟩ | ⟨g, c, rfl, hBg, hlt, hcell, hc⟩
    · rw [h2] at hl; simp at hl; omega
    · refine ⟨g, c, B, hn, hr, hB, hol, by rw [hl, hol], by omega, by omega, hlt, hl, hcell, hrow⟩
theorem wf_up {c : Int} (h : (Lit.int .i64 c).wf = true) : c ≤ 9223372036854775807 := by
  simp only [Lit.wf, Bool.and_eq_true, decide_eq_true_eq] at h
  exact h.2
theorem Lists.short {w : World} {g c B : Nat} {outs : List (List Int)} {rows : List Value} {p : Pl} {seen frm : Int} {nl ni n : Nat} {y : Int} {s : List Int} (_ : Lists w g c outs B rows) (h1 : p.lns.length = nl) (hr : Runs p seen frm nl ni n y s outs) {i : Nat} (hi : i < n) : (outN outs i).length ≤ nl := by
  obtain ⟨y1, s1, r⟩ := hr.pre (i + 1) (by omega)
  obtain ⟨y2, s2, o2, k, vs, r2, ⟨f, t, d, m, yrs, _, _, _, hb, hv⟩, _, _, e⟩ := r.inv
  obtain ⟨q1, q2, q3⟩ := bind_ok hb
  have hl := (linesV_ok q1 q3 q2 nl (by omega) vs hv).1
  have e2 : outN outs i = vs := by
    have h := congrArg (fun l => outN l i) e
    rw [show outN (o2 ++ [vs]) i = vs by rw [← r2.len]; exact outN_new] at h
    rw [← h]
    simp [outN, List.getD_eq_getElem?_getD, List.getElem?_take]
  rw [e2]
  omega
end Go.Proofs.YtonceehdmnkffaaGreatDoor
