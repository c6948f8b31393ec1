/-
  Promises M2, M5: lists of totals joined; what is wrong with two.
-/
import Derived.Test.YtfamnlaignjhkaaOGathR
namespace Go.Proofs.Ytfamnlaignjhkaa
open Go.RowKit Go.Sort

theorem run_app_src (w : World) (ty : TypeId) (B : Nat) (v : Value) (l : List Tt) (hown : GrowO w B v l) (src : Option Addr) (m c : Nat) (news : List Tt) (hsrc : CameO w src news) (hm : news.length = m)
    (hb : (l.length + m) * 40 ≤ 140737488355328) (hB : B ≤ w.heap.size) :
    ∃ v' w', (Builtin.append_ #[22, 22] ty #[v, .slice src m c]).run Try.prog w = .ok v' w' ∧ GrowO w' B v' (l ++ news) ∧ w.grownBy w' v.ownBlock ∧ Go.RowKit.Below B w w' := by
  cases src with
  | none =>
    have h0 : news.length = 0 := by
      rcases hsrc with h | ⟨b, off, he, _⟩
      · exact h
      · cases he
    have hn : news = [] := List.eq_nil_of_length_eq_zero h0
    subst hn
    obtain rfl : m = 0 := by omega
    obtain ⟨i0, hi, hz0, hz1, hz2⟩ := info_parts tt_info
    refine ⟨v, w, ?_, by rw [List.append_nil]; exact hown, ⟨rfl, rfl, rfl, Nat.le_refl _, fun _ _ _ => rfl⟩, Below.refl _ _⟩
    rcases hown.2 with ⟨rfl, h2⟩ | ⟨g, cap, cur, rfl, h2, h3, h4, _⟩
    · simp [Builtin.append_, run_underlying Try.underlying22, sizeOf, typeInfo, hi, Builtin.lenOf, Builtin.firstCells]
    · simp [Builtin.append_, run_underlying Try.underlying22, sizeOf, typeInfo, hi, Builtin.lenOf, Builtin.firstCells, h4, storeCells]
  | some ad => exact run_app_any w ty B v l hown ad m c news hsrc hm hb hB
theorem wpList_app_src {ops : Array Oper} {rest : List Oper} {o : Oper} {a : Act} {Q : Exit → Act → World → Prop} (w : World) (hgd : o.guard = none) (s x : Operand)
    (ho : o.op = .call { callee := .builtin .append, args := #[s, x], argTypes := #[22, 22] })
    (B : Nat) (v : Value) (l : List Tt) (hs : a.eval s = v) (hown : GrowO w B v l) (src : Option Addr) (m c : Nat) (news : List Tt) (hx : a.eval x = .slice src m c) (hsrc : CameO w src news) (hm : news.length = m)
    (hb : (l.length + m) * 40 ≤ 140737488355328) (hB : B ≤ w.heap.size)
    (h : ∀ v' w', GrowO w' B v' (l ++ news) → w.grownBy w' v.ownBlock → Go.RowKit.Below B w w' → wpList Try.prog ops Q rest (a.put o.dst v') w') :
    wpList Try.prog ops Q (o :: rest) a w := by
  obtain ⟨v', w', hr, h2, h3, h4⟩ := run_app_src w o.type B v l hown src m c news hsrc hm hb hB
  refine wpList_plain hgd fun _ hK => ?_
  unfold Oper.wp execOp
  simp only [ho, resolve, invoke, builtin, Sem.run_bind, Sem.run_pure, Result.andThen_ok, List.map_toArray, List.map_cons, List.map_nil, hs, hx, hr]
  exact hK _ _ (h v' w' h2 h3 h4)
set_option maxRecDepth 100000 in
set_option maxHeartbeats 1000000 in
theorem twoTotals_ref (a : Option Addr) (n cap : Nat) (l : List Tt) (b : Option Addr) (n' cap' : Nat) (l' : List Tt) (w : World) (hc : CameO w a l) (hn : l.length = n) (hm : n ≤ maxLen) (hf : NFit l) (hc' : CameO w b l') (hn' : l'.length = n') (hm' : n' ≤ maxLen) (hf' : NFit l') :
    Calls Try.prog 15 #[.slice a n cap, .slice b n' cap'] w fun e w' => e = .returned (.int .i64 (twoE l l')) ∧ Go.RowKit.Below w.heap.size w w' := by
  have HC := Lib.hid hc
  have HM := Lib.hid hm
  have HN := Lib.hid hn
  have HF := Lib.hid hf
  have HC' := Lib.hid hc'
  have HM' := Lib.hid hm'
  have HN' := Lib.hid hn'
  have HF' := Lib.hid hf'
  have HE : Hid (twoE l l' = if totE l = 0 then totE l' else totE l) := rfl
  clear hc hm hn hf hc' hm' hn' hf'
  go_enter Try.func15, Try.ntmps15
  go_wp2_with fail
  refine (checkTotals_ref a n cap l false _ HC.out HF.out HN.out HM.out).mono ?_
  rintro e w1 ⟨rfl, hb⟩
  rw [show refE false l = totE l from rfl]
  have HB1 := Lib.hid hb
  clear hb
  by_cases h0 : totE l = 0
  · rw [if_pos h0] at HE
    rw [h0]
    clear h0
    go_wp2_with fail
    refine (checkTotals_ref b n' cap' l' false _ (HC'.out.below HB1.out) HF'.out HN'.out HM'.out).mono ?_
    rintro e w2 ⟨rfl, hb⟩
    rw [show refE false l' = totE l' from rfl]
    have HB2 := Lib.hid (HB1.out.trans (hb.mono HB1.out.size))
    clear hb
    obtain ⟨er, her⟩ : ∃ c, totE l' = c := ⟨_, rfl⟩
    rw [her] at HE ⊢
    clear her
    go_wp2_with fail
    go_ret
    exact ⟨oret_int HE.out.symm, HB2.out⟩
  · rw [if_neg h0] at HE
    have h0' : (totE l == 0) = false := by simp [h0]
    obtain ⟨er, her⟩ : ∃ c, totE l = c := ⟨_, rfl⟩
    rw [her] at HE h0' ⊢
    clear h0 her
    go_wp2_with fail
    go_ret
    exact ⟨oret_int HE.out.symm, HB1.out⟩
theorem onth_app_left {l m : List Tt} {j : Nat} (hj : j < l.length) : onth (l ++ m) j = onth l j := by
  unfold onth
  rw [List.getD_eq_getElem?_getD, List.getElem?_append_left hj, List.getD_eq_getElem?_getD]
theorem onth_app_right {l m : List Tt} {j : Nat} (hj : l.length ≤ j) : onth (l ++ m) j = onth m (j - l.length) := by
  unfold onth
  rw [List.getD_eq_getElem?_getD, List.getElem?_append_right hj, List.getD_eq_getElem?_getD]
theorem sgn_one (l m : List Tt) : SgnIs l.length 1 (l ++ m) (l ++ m) := by
  refine ⟨rfl, fun j hj => ?_⟩
  split
  · rw [Int.one_mul]
  · rfl
theorem sgn_neg (l m : List Tt) : SgnIs l.length (-1) (l ++ m) (l ++ negL m) := by
  refine ⟨by rw [List.length_append, List.length_append, negL_len], fun j hj => ?_⟩
  rw [List.length_append] at hj
  by_cases h : l.length ≤ j
  · rw [if_pos h, onth_app_right h, onth_app_right h, onth_negL (by omega)]
    unfold negT
    congr 1
    omega
  · rw [if_neg h, onth_app_left (by omega), onth_app_left (by omega)]
end Go.Proofs.Ytfamnlaignjhkaa
