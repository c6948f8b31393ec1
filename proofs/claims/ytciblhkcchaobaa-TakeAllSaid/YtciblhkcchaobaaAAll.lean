/-
  Promises L1 to L3: walks of Check, due, All and Least.
-/
import Derived.Test.YtciblhkcchaobaaACheck
import Derived.ArgAppend
import Derived.Maps.AppendAt
import Derived.Laws.MakeOwn
import Derived.OwnWalk
import Derived.Lib.QuietBelow
import Derived.Laws.EntriesVeiled
namespace Go.Proofs.Ytciblhkcchaobaa
open Go.RowKit

set_option maxRecDepth 100000 in
set_option maxHeartbeats 1000000 in
theorem Check_any (g k : Int) (a : Option Addr) (n cap : Nat) (l : List Cl) (w : World) (hc : CameC w a l) (hn : l.length = n) (hm : n ≤ maxLen) :
    Calls Try.prog 11 #[.int .i64 g, .int .i64 k, .slice a n cap] w fun e w' => e = .returned (.int .i64 (claimE g k l)) ∧ Below w.heap.size w w' := by
  have HC := Lib.hid hc
  have HM := Lib.hid hm
  have HN := Lib.hid hn
  have hm' : n ≤ 9223372036854775807 := by unfold maxLen at hm; omega
  clear hm hc hn
  have HBX := Lib.hid (ubelow_box w (.cells #[.func (.func 22) #[] #[]] 46))
  have hg0 : (w.alloc (.cells #[.func (.func 22) #[] #[]] 46)).cell? ⟨w.heap.size, 0, none⟩ = some (.func (.func 22) #[] #[]) := by simp
  have hmf : ∀ (fn : Fn) (first cap : Array Value) (w : World), (Instr.makeFunc fn first cap).run Try.prog w = .ok (.func fn first cap) w := fun _ _ _ _ => rfl
  by_cases h30 : 30 < n
  · have HE := Lib.hid (claimE_many (g := g) (k := k) (l := l) (by rw [HN.out]; exact h30))
    have h30' : (30 : Int) < (n : Int) := by omega
    go_enter Try.func11, Try.ntmps11
    have HB := HBX
    go_wp2_with fail
    go_ret
    exact ⟨uret_int HE.out.symm, HB.out⟩
  · have h30' : ¬ ((30 : Int) < (n : Int)) := by omega
    go_enter Try.func11, Try.ntmps11
    cases hgB : cmB g
    · have HE := Lib.hid (claimE_range (g := g) (k := k) (l := l) (by rw [HN.out]; exact h30) (by rw [hgB]; rfl))
      go_wp2_with (go_at_call 22; refine (isNone_any _ _).mono ?_; rintro e w' ⟨rfl, h'⟩; subst w'; rw [hgB])
      have HB := HBX
      go_wp2_with fail
      go_ret
      exact ⟨uret_int HE.out.symm, HB.out⟩
    · cases hkB : cmB k
      · have HE := Lib.hid (claimE_range (g := g) (k := k) (l := l) (by rw [HN.out]; exact h30) (by rw [hgB, hkB]; rfl))
        go_wp2_with (go_at_call 22; refine (isNone_any _ _).mono ?_; rintro e w' ⟨rfl, h'⟩; subst w'; first | rw [hgB] | rw [hkB])
        have HB := HBX
        go_wp2_with fail
        go_ret
        exact ⟨uret_int HE.out.symm, HB.out⟩
      · go_wp2_with (go_at_call 22; refine (isNone_any _ _).mono ?_; rintro e w' ⟨rfl, h'⟩; subst w'; first | rw [hgB] | rw [hkB])
        refine (contains_cl a n cap l w.heap.size _ (HC.out.below HBX.out) HN.out HM.out hg0).mono ?_
        rintro e w1 ⟨rfl, hb1⟩
        have HB1 := Lib.hid (HBX.out.trans (hb1.mono HBX.out.size))
        have HC1 := Lib.hid ((HC.out.below HBX.out).below hb1)
        clear hb1 HBX
        cases hcl : clsB l
        · have HE := Lib.hid (claimE_range (g := g) (k := k) (l := l) (by rw [HN.out]; exact h30) (by rw [hgB, hkB, hcl]; rfl))
          have HBX := HB1
          have HB := HBX
          go_wp2_with fail
          go_ret
          exact ⟨uret_int HE.out.symm, HB.out⟩
        · go_wp2_with fail
          refine (contains_cap a n cap l _ HC1.out HN.out HM.out).mono ?_
          rintro e w2 ⟨rfl, hb2⟩
          have HBX := Lib.hid (HB1.out.trans (hb2.mono HB1.out.size))
          clear hb2
          cases hca : capsB l
          · have HE := Lib.hid (claimE_range (g := g) (k := k) (l := l) (by rw [HN.out]; exact h30) (by rw [hgB, hkB, hcl, hca]; rfl))
            have HB := HBX
            go_wp2_with fail
            go_ret
            exact ⟨uret_int HE.out.symm, HB.out⟩
          · have HE := Lib.hid (claimE_ok (g := g) (k := k) (l := l) (by rw [HN.out]; exact h30) (by rw [hgB, hkB, hcl, hca]; rfl))
            have HB := HBX
            go_wp2_with fail
            go_ret
            exact ⟨uret_int HE.out.symm, HB.out⟩
theorem due_any (c : Cl) (w : World) (h0 : 0 ≤ c.want) (h1 : 0 ≤ c.year) (h2 : c.year ≤ 1000000000000) (h3 : c.cap ≤ 1000000000000) :
    Calls Try.prog 26 #[.agg #[.int .i64 c.want, .int .i64 c.owed, .int .i64 c.cap, .int .i64 c.year]] w fun e w' => e = .returned (.int .i64 (due c)) ∧ w' = w.alloc (.cells #[.int .i64 c.want, .int .i64 c.owed, .int .i64 c.cap, .int .i64 c.year] 40) := by
  obtain ⟨a, b, cc, d⟩ := c
  simp only at h0 h1 h2 h3
  by_cases hc : cc < 0
  · have H : Hid (due ⟨a, b, cc, d⟩ = a) := by unfold Hid due; simp [hc]
    go_enter Try.func26, Try.ntmps26
    go_wp2
    go_ret
    exact ⟨uret_int H.out.symm, rfl⟩
  · have H : Hid (due ⟨a, b, cc, d⟩ = min a (max 0 (cc - d))) := by unfold Hid due; simp [hc]
    by_cases h4 : 0 < cc - d
    · by_cases h5 : cc - d < a
      · go_enter Try.func26, Try.ntmps26
        go_wp2
        go_ret
        exact ⟨uret_int (by rw [H.out]; omega), rfl⟩
      · go_enter Try.func26, Try.ntmps26
        go_wp2
        go_ret
        exact ⟨uret_int (by rw [H.out]; omega), rfl⟩
    · by_cases h5 : 0 < a
      · go_enter Try.func26, Try.ntmps26
        go_wp2
        go_ret
        exact ⟨uret_int (by rw [H.out]; omega), rfl⟩
      · go_enter Try.func26, Try.ntmps26
        go_wp2
        go_ret
        exact ⟨uret_int (by rw [H.out]; omega), rfl⟩
/-! ### Rows of what is taken -/
theorem tk_info : (Try.prog.info? 42).map (fun i => (i.zero, i.size, i.bytes)) = some (some (.agg #[.int .i64 0, .int .i64 0, .int .i64 0]), 3, 24) := by kernel_rfl
/-- The slice v, of the call's own from block B on, holds n rows, whose ints are L. -/
def GrowF (w : World) (B : Nat) (v : Value) (n : Nat) (L : List Int) : Prop := w.ownsRow B 42 3 v n (L.map (Value.int .i64)) ∧ L.length = n * 3
theorem GrowF.lt {w : World} {B n : Nat} {v : Value} {L : List Int} (h : GrowF w B v n L) : ∀ k, v.ownBlock = some k → B ≤ k ∧ k < w.heap.size := World.ownsRow.lt h.1
theorem GrowF.alloc {w : World} {B n : Nat} {v : Value} {L : List Int} (h : GrowF w B v n L) (o : Obj) : GrowF (w.alloc o) B v n L := ⟨World.ownsRow.alloc h.1 o, h.2⟩
theorem GrowF.nil (w : World) (B : Nat) : GrowF w B (.slice none 0 0) 0 [] := ⟨World.ownsRow_nil _ _ _ _, rfl⟩
theorem GrowF.below {w w' : World} {B n : Nat} {v : Value} {L : List Int} (h : GrowF w B v n L) (hb : Below w.heap.size w w') : GrowF w' B v n L := by
  refine ⟨World.ownsRow.kept (row := none) h.1 ⟨hb.os, hb.tape, hb.output, hb.size, fun k hk _ => hb.block k hk⟩ ?_, h.2⟩
  cases v.ownBlock with
  | none => exact .inl rfl
  | some k => exact .inr (Option.some_ne_none k)
theorem GrowF.form {w : World} {B n : Nat} {v : Value} {L : List Int} (h : GrowF w B v n L) : (v = .slice none 0 0 ∧ n = 0) ∨ ∃ g c, v = .slice (some ⟨g, 0, none⟩) n c ∧ B ≤ g ∧ At w g 0 L := by
  have hh := h
  rcases h.1.2 with ⟨h1, h2⟩ | ⟨g, c, cur, h1, h2, _⟩
  · exact .inl ⟨h1, h2⟩
  · subst h1
    refine .inr ⟨g, c, rfl, h2, (GrowF.lt hh g rfl).2, fun j hj => ?_⟩
    have := World.ownsRow.cells hh.1 (g := g) rfl j (.int .i64 (nth L j)) (by simp [nth, List.getD_eq_getElem?_getD, hj])
    rwa [Addr.add_lit] at this
theorem GrowF.slice {w : World} {B n : Nat} {v : Value} {L : List Int} (h : GrowF w B v n L) : ∃ x c, v = .slice x n c := by
  rcases h.form with ⟨h1, h2⟩ | ⟨g, c, h1, _⟩
  · subst h2; exact ⟨none, 0, h1⟩
  · exact ⟨_, c, h1⟩
theorem wpList_app_tk {ops : Array Oper} {rest : List Oper} {o : Oper} {a : Act} {Q : Exit → Act → World → Prop} (w : World) (hgd : o.guard = none) (s x : Operand)
    (ho : o.op = .call { callee := .builtin .append, args := #[s, x], argTypes := #[27, 27] })
    (B n : Nat) (v : Value) (L : List Int) (hs : a.eval s = v) (hown : GrowF w B v n L) (b c : Nat) (p q r : Int) (hx : a.eval x = .slice (some ⟨b, 0, none⟩) 1 c)
    (h0 : w.cell? ⟨b, 0, none⟩ = some (.int .i64 p)) (h1 : w.cell? ⟨b, 1, none⟩ = some (.int .i64 q)) (h2 : w.cell? ⟨b, 2, none⟩ = some (.int .i64 r)) (hb : n ≤ 1000) (hB : B ≤ w.heap.size)
    (h : ∀ v' w', GrowF w' B v' (n + 1) (L ++ [p, q, r]) → Below B w w' → wpList Try.prog ops Q rest (a.put o.dst v') w') :
    wpList Try.prog ops Q (o :: rest) a w := by
  obtain ⟨i0, hi, hz0, hz1, hz2⟩ := info_parts tk_info
  have hnews : ∀ j u, ([Value.int .i64 p, Value.int .i64 q, Value.int .i64 r])[j]? = some u → w.cell? ((⟨b, 0, none⟩ : Addr).add j) = some u := by
    intro j u hu
    rw [Addr.add_lit, Nat.zero_add]
    match j with
    | 0 => simp at hu; subst hu; exact h0
    | 1 => simp at hu; subst hu; exact h1
    | 2 => simp at hu; subst hu; exact h2
    | j + 3 => simp at hu
  obtain ⟨v', w', hr, h2', h3, _, h5⟩ := run_append_own_at (P := Try.prog) w B 27 o.type 42 i0 _ 3 24 Try.underlying27 hi hz0 hz1 hz2 rfl (by decide) v n (L.map (Value.int .i64)) hown.1 ⟨b, 0, none⟩ 1 c [Value.int .i64 p, Value.int .i64 q, Value.int .i64 r] rfl hnews (by simp [Value.oneCell']) (by unfold maxLen; omega) (by omega) hB
  have h2'' : GrowF w' B v' (n + 1) (L ++ [p, q, r]) := by
    refine ⟨?_, by rw [List.length_append, hown.2]; simp; omega⟩
    rw [List.map_append]
    exact h2'
  refine wpList_plain hgd fun _ hK => ?_
  unfold Oper.wp execOp
  simp only [ho, resolve, invoke, builtin, Sem.run_bind, Sem.run_pure, Result.andThen_ok, List.map_toArray, List.map_cons, List.map_nil, hs, hx, hr]
  exact hK _ _ (h v' w' h2'' ((Below.refl B w).grown h3 hB fun k hk => (GrowF.lt hown k hk).1))
theorem make_tks (n : Nat) (h : n ≤ 60) (w : World) :
    (Instr.makeSlice 27 (.int .i64 0) (.int .i64 (n : Int))).run Try.prog w = .ok (.slice (some ⟨w.heap.size, 0, none⟩) 0 n) (w.alloc (.cells (madeCells #[.int .i64 0, .int .i64 0, .int .i64 0] (n * 3)) 42)) := by
  obtain ⟨i0, hi, hz0, hz1, hz2⟩ := info_parts tk_info
  have h := run_make (P := Try.prog) w 27 42 i0 _ Try.underlying27 hi hz0 .i64 .i64 0 (n : Int) (by omega) (by omega) (by rw [hz2]; omega) (by omega)
  rw [hz1] at h
  simpa [Value.cells] using h
theorem made_tks (w : World) (n : Nat) {B : Nat} (hB : B ≤ w.heap.size) (hn : n ≤ 60) : GrowF (w.alloc (.cells (madeCells #[.int .i64 0, .int .i64 0, .int .i64 0] (n * 3)) 42)) B (.slice (some ⟨w.heap.size, 0, none⟩) 0 n) 0 [] := by
  refine ⟨World.ownsRow_made (w := w) _ n hB (by unfold maxLen; omega) ?_, rfl⟩
  rw [size_madeCells]
end Go.Proofs.Ytciblhkcchaobaa
