/-
  Promise M2: a row of totals of the call's own, in which money is changed; the walks of Clone and opposites.
-/
import Derived.Test.YtfamnlaignjhkaaOIns
namespace Go.Proofs.Ytfamnlaignjhkaa
open Go.RowKit Go.Sort

/-- The totals F lie in a row of the call's own, from block B on, that may be written. -/
def OwnO (w : World) (B : Nat) (v : Value) (F : List Tt) : Prop := (v = .slice none 0 0 ∧ F = []) ∨ ∃ g c, v = .slice (some ⟨g, 0, none⟩) F.length c ∧ B ≤ g ∧ OAt w g 0 F ∧ F.length ≤ c ∧ c ≤ maxLen ∧ ∀ j, j < F.length → w.frozen? ⟨g, j * 4 + 3, none⟩ = false
theorem OwnO.of {w : World} {B : Nat} {v : Value} {l : List Tt} (h : GrowO w B v l) : OwnO w B v l := by
  have hh := h
  rcases h.form with h1 | ⟨g, c, h1, h2, h3, h4⟩
  · exact .inl h1
  · refine .inr ⟨g, c, h1, h2, h3, ?_⟩
    rcases hh.2 with ⟨e1, _⟩ | ⟨g', c', cur, e1, _, hg, hn, hm, hs, _⟩
    · rw [h1] at e1; cases e1
    · rw [h1] at e1
      injection e1 with e1 e2 e3
      subst e3
      refine ⟨hn, hm, fun j hj => ?_⟩
      have := (h4.cell (i := j) (c := 3) (by simpa using hj) (by omega)).2
      rwa [Nat.zero_add] at this
theorem OwnO.below {w w' : World} {B : Nat} {v : Value} {l : List Tt} (h : OwnO w B v l) (hb : Go.RowKit.Below w.heap.size w w') : OwnO w' B v l := by
  rcases h with h | ⟨g, c, h1, h2, h3, h4, h5, h6⟩
  · exact .inl h
  · exact .inr ⟨g, c, h1, h2, h3.below hb h3.1, h4, h5, fun j hj => by rw [hb.frozen (p := ⟨g, j * 4 + 3, none⟩) h3.1]; exact h6 j hj⟩
theorem OwnO.mono {w : World} {B B' : Nat} {v : Value} {l : List Tt} (h : OwnO w B v l) (hB : B' ≤ B) : OwnO w B' v l := by
  rcases h with h | ⟨g, c, h1, h2, h3⟩
  · exact .inl h
  · exact .inr ⟨g, c, h1, Nat.le_trans hB h2, h3⟩
theorem OwnO.slice {w : World} {B : Nat} {v : Value} {l : List Tt} (h : OwnO w B v l) : ∃ x c, v = .slice x l.length c ∧ CameO w x l := by
  rcases h with ⟨h1, h2⟩ | ⟨g, c, h1, h2, h3, _⟩
  · subst h2; exact ⟨none, 0, h1, .inl rfl⟩
  · exact ⟨_, c, h1, .inr ⟨g, 0, rfl, h3⟩⟩
theorem OwnO.at {w : World} {B : Nat} {x : Option Addr} {n c : Nat} {l : List Tt} (h : OwnO w B (.slice x n c) l) (hl : 0 < l.length) : ∃ g, x = some ⟨g, 0, none⟩ ∧ n = l.length ∧ B ≤ g ∧ OAt w g 0 l ∧ l.length ≤ c ∧ c ≤ maxLen ∧ ∀ j, j < l.length → w.frozen? ⟨g, j * 4 + 3, none⟩ = false := by
  rcases h with ⟨h1, h2⟩ | ⟨g, c', h1, h2, h3, h4, h5, h6⟩
  · subst h2; simp at hl
  · injection h1 with e1 e2 e3
    subst e3
    exact ⟨g, e1, e2, h2, h3, h4, h5, h6⟩
/-- Money put at a place. -/
def putM (F : List Tt) (j : Nat) (m : Int) : List Tt := F.take j ++ (⟨(onth F j).per, (onth F j).nam, (onth F j).yr, m⟩ :: F.drop (j + 1))
theorem putM_len {F : List Tt} {j : Nat} {m : Int} (hj : j < F.length) : (putM F j m).length = F.length := by
  unfold putM
  simp only [List.length_append, List.length_take, List.length_cons, List.length_drop]
  omega
theorem onth_putM {F : List Tt} {j i : Nat} {m : Int} (hj : j < F.length) : onth (putM F j m) i = if i = j then ⟨(onth F j).per, (onth F j).nam, (onth F j).yr, m⟩ else onth F i := by
  unfold putM
  have hl : (F.take j).length = j := by rw [List.length_take]; omega
  unfold onth
  rw [List.getD_eq_getElem?_getD]
  rcases (show i < j ∨ i = j ∨ j < i by omega) with h | h | h
  · rw [List.getElem?_append_left (by omega), if_neg (by omega), List.getElem?_take, if_pos h, List.getD_eq_getElem?_getD]
  · subst h
    rw [List.getElem?_append_right (by omega), if_pos rfl, hl, Nat.sub_self]
    rfl
  · rw [List.getElem?_append_right (by omega), if_neg (by omega), hl, show i - j = (i - j - 1) + 1 by omega, List.getElem?_cons_succ, List.getElem?_drop, List.getD_eq_getElem?_getD, show j + 1 + (i - j - 1) = i by omega]
theorem OwnO.put {w : World} {B g n c : Nat} {F : List Tt} (h : OwnO w B (.slice (some ⟨g, 0, none⟩) n c) F) {j : Nat} (hj : j < F.length) (m : Int) : OwnO (w.setCell ⟨g, j * 4 + 3, none⟩ (.int .i64 m)) B (.slice (some ⟨g, 0, none⟩) n c) (putM F j m) := by
  obtain ⟨g', e, hn, hB, hat, h4, h5, h6⟩ := h.at (by omega)
  cases e
  refine .inr ⟨g, c, by rw [putM_len hj, hn], hB, ⟨by simp; exact hat.1, fun i hi => ?_⟩, by rw [putM_len hj]; exact h4, h5, fun i hi => by rw [World.frozen?_setCell]; exact h6 i (by rw [putM_len hj] at hi; exact hi)⟩
  rw [putM_len hj] at hi
  rw [onth_putM hj, Nat.zero_add]
  obtain ⟨c0, c1, c2, c3⟩ := hat.2 i hi
  rw [Nat.zero_add] at c0 c1 c2 c3
  have other : ∀ o, o ≠ j * 4 + 3 → ∀ u, w.cell? ⟨g, o, none⟩ = some u → (w.setCell ⟨g, j * 4 + 3, none⟩ (.int .i64 m)).cell? ⟨g, o, none⟩ = some u := fun o ho u hu => by
    rw [World.cell?_setCell_other (h := fun e => by injection e; omega)]
    exact hu
  by_cases e : i = j
  · subst e
    rw [if_pos rfl]
    exact ⟨other _ (by omega) _ c0, other _ (by omega) _ c1, other _ (by omega) _ c2, World.cell?_setCell_same _ _ _ c3⟩
  · rw [if_neg e]
    exact ⟨other _ (by omega) _ c0, other _ (by omega) _ c1, other _ (by omega) _ c2, other _ (by omega) _ c3⟩
theorem run_app_none (w : World) (ty : TypeId) (B : Nat) (v : Value) (l : List Tt) (hown : GrowO w B v l) (ad : Addr) (c : Nat) (hb : l.length * 40 ≤ 140737488355328) (hB : B ≤ w.heap.size) :
    ∃ v' w', (Builtin.append_ #[22, 22] ty #[v, .slice (some ad) 0 c]).run Try.prog w = .ok v' w' ∧ GrowO w' B v' l ∧ w.grownBy w' v.ownBlock ∧ Go.RowKit.Below B w w' := by
  obtain ⟨i0, hi, hz0, hz1, hz2⟩ := info_parts tt_info
  obtain ⟨v', w', hr, h2, h3, _, h5⟩ := run_append_own_at (P := Try.prog) w B 22 ty 50 i0 _ 4 40 Try.underlying22 hi hz0 hz1 hz2 rfl (by decide) v l.length (cellsO l) hown ad 0 c [] (by simp) (by simp) (by simp) (by unfold maxLen; omega) (by omega) hB
  refine ⟨v', w', hr, ?_, h3, (Below.refl B w).grown h3 hB fun k hk => (GrowO.lt hown k hk).1⟩
  unfold GrowO
  simpa using h2
theorem wpList_app_any {ops : Array Oper} {rest : List Oper} {o : Oper} {a : Act} {Q : Exit → Act → World → Prop} (w : World) (hgd : o.guard = none) (s x : Operand)
    (ho : o.op = .call { callee := .builtin .append, args := #[s, x], argTypes := #[22, 22] })
    (B : Nat) (v : Value) (l : List Tt) (hs : a.eval s = v) (hown : GrowO w B v l) (ad : Addr) (m c : Nat) (news : List Tt) (hx : a.eval x = .slice (some ad) m c) (hsrc : CameO w (some ad) news) (hm : news.length = m)
    (hb : (l.length + m) * 40 ≤ 140737488355328) (hB : B ≤ w.heap.size)
    (h : ∀ v' w', GrowO w' B v' (l ++ news) → w.grownBy w' v.ownBlock → Go.RowKit.Below B w w' → wpList Try.prog ops Q rest (a.put o.dst v') w') :
    wpList Try.prog ops Q (o :: rest) a w := by
  have key : ∃ v' w', (Builtin.append_ #[22, 22] o.type #[v, .slice (some ad) m c]).run Try.prog w = .ok v' w' ∧ GrowO w' B v' (l ++ news) ∧ w.grownBy w' v.ownBlock ∧ Go.RowKit.Below B w w' := by
    rcases hsrc with h0 | ⟨b, off, e, hat⟩
    · obtain rfl := List.eq_nil_of_length_eq_zero h0
      obtain rfl : m = 0 := by simpa using hm.symm
      rw [List.append_nil]
      exact run_app_none w o.type B v l hown ad c (by omega) hB
    · injection e with e
      subst e
      exact run_app_tts w o.type B v l hown b off m c news hat hm hb hB
  obtain ⟨v', w', hr, h2, h3, h4⟩ := key
  refine wpList_plain hgd fun _ hK => ?_
  unfold Oper.wp execOp
  simp only [ho, resolve, invoke, builtin, Sem.run_bind, Sem.run_pure, Result.andThen_ok, List.map_toArray, List.map_cons, List.map_nil, hs, hx, hr]
  exact hK _ _ (h v' w' h2 h3 h4)
theorem eqIn_nil (w : World) (d : Nat) (a : Option Addr) (l c : Nat) : (Op.equalIn (d + 1) 22 (.slice a l c) (.slice none 0 0)).run Try.prog w = .ok a.isNone w := by
  cases a <;> simp [Op.equalIn, run_underlying Try.underlying22]
theorem equal_nil (w : World) (a : Option Addr) (l c : Nat) : (Op.equal 22 (.slice a l c) (.slice none 0 0)).run Try.prog w = .ok a.isNone w := eqIn_nil w 9999 a l c
theorem eql_nil (w : World) (a : Option Addr) (l c : Nat) : (binOp .eql 22 (.slice a l c) (.slice none 0 0)).run Try.prog w = .ok (.bool a.isNone) w := by
  simp [binOp, equal_nil w a l c]
set_option maxRecDepth 100000 in
set_option maxHeartbeats 1000000 in
theorem Clone_any (a : Option Addr) (n cap : Nat) (l : List Tt) (w : World) (hc : CameO w a l) (hn : l.length = n) (h4 : n ≤ 1000) :
    Calls Try.prog 47 #[.slice a n cap] w fun e w' => ∃ v, e = .returned v ∧ OwnO w' w.heap.size v l ∧ Go.RowKit.Below w.heap.size w w' := by
  cases a with
  | none =>
    have h0 : l = [] := by
      rcases hc with h | ⟨b, off, e, _⟩
      · exact List.eq_nil_of_length_eq_zero h
      · cases e
    have HZ := Lib.hid h0
    clear h0 hc hn
    have hq := eql_nil
    go_enter Try.func47, Try.ntmps47
    go_wp2_with fail
    go_ret
    exact ⟨_, rfl, .inl ⟨rfl, HZ.out⟩, Below.refl _ _⟩
  | some ad =>
    have HC := Lib.hid hc
    have HN := Lib.hid hn
    have HG0 := Lib.hid (GrowO.made w (B := w.heap.size) (Nat.le_refl _))
    have HB0 := Lib.hid (obelow_box w (.cells #[] 50))
    clear hc hn
    have hq := eql_nil
    go_enter Try.func47, Try.ntmps47
    go_wp2_with (first | (at_builtin; refine wpList_app_any _ rfl _ _ rfl w.heap.size (.slice (some ⟨w.heap.size, 0, none⟩) 0 0) [] rfl HG0.out ad n cap l rfl (HC.out.below HB0.out) HN.out (by simp; omega) (by simp) ?_; intro v' w2 hgr2 hgrow2 hbel2))
    go_ret
    exact ⟨_, rfl, OwnO.of hgr2, HB0.out.trans hbel2⟩
def negT (t : Tt) : Tt := ⟨t.per, t.nam, t.yr, -t.mon⟩
def negL (l : List Tt) : List Tt := l.map negT
theorem negL_len (l : List Tt) : (negL l).length = l.length := by unfold negL; simp
theorem onth_negL {l : List Tt} {j : Nat} (hj : j < l.length) : onth (negL l) j = negT (onth l j) := by
  rw [onth_get (by rw [negL_len]; exact hj), onth_get hj]
  unfold negL
  simp
/-- The first k are turned. -/
def halfL (l : List Tt) (k : Nat) : List Tt := (negL l).take k ++ l.drop k
theorem halfL_len (l : List Tt) (k : Nat) : (halfL l k).length = l.length := by
  unfold halfL
  rw [List.length_append, List.length_take, negL_len, List.length_drop]
  omega
theorem halfL_at {l : List Tt} {k : Nat} (hk : k < l.length) : onth (halfL l k) k = onth l k := by
  unfold halfL onth
  have : ((negL l).take k).length = k := by rw [List.length_take, negL_len]; omega
  rw [List.getD_eq_getElem?_getD, List.getElem?_append_right (by omega), this, Nat.sub_self, List.getElem?_drop, Nat.add_zero, List.getD_eq_getElem?_getD]
theorem halfL_step {l : List Tt} {k : Nat} (hk : k < l.length) : putM (halfL l k) k (-(onth l k).mon) = halfL l (k + 1) := by
  unfold putM
  rw [halfL_at hk]
  unfold halfL
  have hl : ((negL l).take k).length = k := by rw [List.length_take, negL_len]; omega
  rw [List.take_append_of_le_length (by omega), List.take_of_length_le (by omega), otake_snoc (by rw [negL_len]; exact hk), onth_negL hk, List.append_assoc]
  congr 1
  show _ :: _ = negT (onth l k) :: _
  unfold negT
  congr 1
  rw [List.drop_append, hl, List.drop_eq_nil_of_le (by omega), List.nil_append, List.drop_drop]
  congr 1
  omega
set_option maxRecDepth 100000 in
set_option maxHeartbeats 2000000 in
theorem opposites_any (a : Option Addr) (n cap : Nat) (l : List Tt) (w : World) (hc : CameO w a l) (hn : l.length = n) (h4 : n ≤ 1000) (hok : ∀ t ∈ l, OkT t) :
    Calls Try.prog 35 #[.slice a n cap] w fun e w' => ∃ x c, e = .returned (.slice x n c) ∧ CameO w' x (negL l) ∧ Go.RowKit.Below w.heap.size w w' := by
  have HC := Lib.hid hc
  have HN := Lib.hid hn
  have HOK := Lib.hid hok
  clear hc hn hok
  go_enter Try.func35, Try.ntmps35
  go_wp2_with fail
  refine (Clone_any a n cap l _ HC.out HN.out h4).mono ?_
  rintro e w1 ⟨v, rfl, hown, hb⟩
  obtain ⟨x, c, rfl, _⟩ := hown.slice
  rw [HN.out] at hown ⊢
  have HB1 := Lib.hid hb
  have HO1 : Hid (OwnO w1 w.heap.size (.slice x n c) (halfL l 0)) := Lib.hid (by unfold halfL; simpa using hown)
  clear hb hown
  go_wp2_with fail
  go_loopw [9] (fun i wr => ∃ k : Nat, k ≤ n ∧ i = .int .i64 k ∧ OwnO wr w.heap.size (.slice x n c) (halfL l k) ∧ Go.RowKit.Below w.heap.size w wr) (fun i _ => n - (intOf i).toNat)
  case atStart => exact ⟨0, Nat.zero_le _, rfl, HO1.out, HB1.out⟩
  case round =>
    clear HO1 HB1
    obtain ⟨k, hk, rfl, hown, hb⟩ := hrel
    have HO := Lib.hid hown
    have HB := Lib.hid hb
    clear hb
    by_cases hlt : k < n
    · have hlt' : (k : Int) < (n : Int) := by omega
      have hkl : k < (halfL l k).length := by rw [halfL_len, HN.out]; exact hlt
      obtain ⟨g, rfl, _, hBg, hat, _, _, hfr⟩ := hown.at (by omega)
      have hf := hfr k hkl
      have hc3 := (hat.2 k hkl).2.2.2
      rw [halfL_at (by rw [HN.out]; exact hlt), Nat.zero_add] at hc3
      have HPT := Lib.hid (HO.out.put hkl (-(onth l k).mon))
      rw [halfL_step (by rw [HN.out]; exact hlt)] at HPT
      have HBG := Lib.hid hBg
      have hwr : IntKind.i64.wrap (-(onth l k).mon) = -(onth l k).mon := IntWalk.i64_in _ (by
        obtain ⟨_, _, _, _, h5, h6, _⟩ := HOK.out _ (onth_mem (l := l) (j := k) (by rw [HN.out]; exact hlt))
        omega)
      clear hown hat hfr hBg hkl
      generalize (onth l k).mon = mo at *
      go_wp2_with fail
      go_roundw
      case rel => exact ⟨k + 1, by omega, by go_num, HPT.out, HB.out.setCell HBG.out _⟩
      case measure => simp [intOf]; omega
    · have hkn : k = n := by omega
      subst hkn
      have HH : Hid (halfL l k = negL l) := Lib.hid (by unfold halfL; rw [← HN.out, List.take_of_length_le (by rw [negL_len]; omega), List.drop_length, List.append_nil])
      rw [HH.out] at HO
      clear hown
      go_wp2_with fail
      go_ret
      obtain ⟨x', c', e, hcm⟩ := HO.out.slice
      injection e with e1 e2 e3
      subst e1
      exact ⟨_, _, rfl, hcm, HB.out⟩
end Go.Proofs.Ytfamnlaignjhkaa
