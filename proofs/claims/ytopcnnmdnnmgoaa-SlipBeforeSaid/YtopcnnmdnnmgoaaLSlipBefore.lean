/-
  The walk of the law SlipBefore: it answers true at every input.
-/
import Derived.Test.YtopcnnmdnnmgoaaLSlipCascades
import Derived.Deep.RegionHeld3
namespace Go.Proofs.Ytopcnnmdnnmgoaa
open Go.RowKit Go.Sort

/-- The values ys lie where src is. -/
def SrcIs (w : World) (src : Option Addr) (m : Nat) (ys : List Value) : Prop := m = 0 ∨ ∃ ad, src = some ad ∧ ∀ j u, ys[j]? = some u → w.cell? (ad.add j) = some u
theorem SrcIs.grown {w w' : World} {src : Option Addr} {m : Nat} {ys : List Value} {row : Option Nat} (h : SrcIs w src m ys) (hg : w.grownBy w' row) (hr : ∀ ad, src = some ad → some ad.block ≠ row) : SrcIs w' src m ys := by
  rcases h with h | ⟨ad, e, h⟩
  · exact .inl h
  · refine .inr ⟨ad, e, fun j u hu => hg.cell (h j u hu) ?_⟩
    have := hr ad e
    unfold Addr.add
    split <;> exact this
theorem SrcIs.alloc {w : World} {src : Option Addr} {m : Nat} {ys : List Value} (h : SrcIs w src m ys) (o : Obj) : SrcIs (w.alloc o) src m ys := by
  rcases h with h | ⟨ad, e, h⟩
  · exact .inl h
  · exact .inr ⟨ad, e, fun j u hu => by rw [(kbelow_box w o).cell (oblt_of_cell (h j u hu))]; exact h j u hu⟩
theorem SrcIs.below {w w' : World} {src : Option Addr} {m : Nat} {ys : List Value} (h : SrcIs w src m ys) (hb : Go.RowKit.Below w.heap.size w w') : SrcIs w' src m ys := by
  rcases h with h | ⟨ad, e, h⟩
  · exact .inl h
  · exact .inr ⟨ad, e, fun j u hu => by rw [hb.cell (oblt_of_cell (h j u hu))]; exact h j u hu⟩
/-- 'append(v, src...)', slips, cell by cell. -/
theorem run_appV (w : World) (ty : TypeId) (B : Nat) (v : Value) (n : Nat) (xs : List Value) (hown : w.ownsRow B 44 5 v n xs) (src : Option Addr) (m c : Nat) (ys : List Value) (hl : ys.length = m * 5) (hsrc : SrcIs w src m ys) (h1 : ∀ u ∈ ys, u.oneCell' = true)
    (hb : (n + m) * 56 ≤ 140737488355328) (hB : B ≤ w.heap.size) :
    ∃ v' w', (Builtin.append_ #[22, 22] ty #[v, .slice src m c]).run Try.prog w = .ok v' w' ∧ w'.ownsRow B 44 5 v' (n + m) (xs ++ ys) ∧ w.grownBy w' v.ownBlock := by
  obtain ⟨i0, hi, hz0, hz1, hz2⟩ := info_parts infoSl
  cases src with
  | none =>
    have h0 : m = 0 := by
      rcases hsrc with h | ⟨ad, he, _⟩
      · exact h
      · cases he
    subst h0
    have hn : ys = [] := List.eq_nil_of_length_eq_zero (by omega)
    subst hn
    refine ⟨v, w, ?_, by rw [List.append_nil]; exact hown, ⟨rfl, rfl, rfl, Nat.le_refl _, fun _ _ _ => rfl⟩⟩
    rcases hown.2 with ⟨rfl, h2⟩ | ⟨g, cap, cur, rfl, h2, h3, h4, _⟩
    · simp [Builtin.append_, run_underlying Try.underlying22, sizeOf, typeInfo, hi, Builtin.lenOf, Builtin.firstCells]
    · simp [Builtin.append_, run_underlying Try.underlying22, sizeOf, typeInfo, hi, Builtin.lenOf, Builtin.firstCells, h4, storeCells]
  | some ad =>
    have hnews : ∀ j u, ys[j]? = some u → w.cell? (ad.add j) = some u := by
      rcases hsrc with h | ⟨ad', he, hr⟩
      · subst h
        have hn : ys = [] := List.eq_nil_of_length_eq_zero (by omega)
        subst hn
        intro j u hu
        simp at hu
      · cases he
        exact hr
    obtain ⟨v', w', q1, q2, q3, _⟩ := run_append_own_at (P := Try.prog) w B 22 ty 44 i0 _ 5 56 Try.underlying22 hi hz0 hz1 hz2 rfl (by decide) v n xs hown ad m c ys hl hnews h1 (by unfold maxLen; omega) hb hB
    exact ⟨v', w', q1, q2, q3⟩
theorem step_appV {ops : Array Oper} {o : Oper} {a : Act} {K : Act → World → Prop} {Q : Exit → Act → World → Prop} {E : Prop} (w : World) (hgd : o.guard = none) (s x : Operand)
    (ho : o.op = .call { callee := .builtin .append, args := #[s, x], argTypes := #[22, 22] })
    (B : Nat) (v : Value) (n : Nat) (xs : List Value) (hs : a.eval s = v) (hown : w.ownsRow B 44 5 v n xs) (src : Option Addr) (m c : Nat) (ys : List Value) (hx : a.eval x = .slice src m c) (hl : ys.length = m * 5) (hsrc : SrcIs w src m ys) (h1 : ∀ u ∈ ys, u.oneCell' = true)
    (hb : (n + m) * 56 ≤ 140737488355328) (hB : B ≤ w.heap.size)
    (h : ∀ v' w', w'.ownsRow B 44 5 v' (n + m) (xs ++ ys) → Go.RowKit.Below B w w' → w.grownBy w' v.ownBlock → K (a.put o.dst v') w') :
    if Region.wanted o (yielded ops a.tmps) = true then Oper.wp Try.prog o a w K Q else E := by
  have hw : Region.wanted o (yielded ops a.tmps) = true := by simp [Region.wanted, hgd]
  rw [if_pos hw]
  obtain ⟨v', w', hr, h2, h3⟩ := run_appV w o.type B v n xs hown src m c ys hl hsrc h1 hb hB
  unfold Oper.wp execOp
  simp only [ho, resolve, invoke, builtin, Sem.run_bind, Sem.run_pure, Result.andThen_ok, List.map_toArray, List.map_cons, List.map_nil, hs, hx, hr]
  exact h v' w' h2 ((Below.refl B w).grown h3 hB fun k hk => (World.ownsRow.lt hown k hk).1) h3
def slV (r : Sl) (a : Option Addr) (c : Nat) : List Value := [.int .i64 r.num, .int .i64 r.per, .int .i64 r.run, .bool r.gone, .slice a r.tot.length c]
theorem srcS_box (w : World) (nu pe ru : Int) (go : Bool) (a : Option Addr) (n c : Nat) : SrcIs (w.alloc (.cells #[.int .i64 nu, .int .i64 pe, .int .i64 ru, .bool go, .slice a n c] 44)) (some ⟨w.heap.size, 0, none⟩) 1 [.int .i64 nu, .int .i64 pe, .int .i64 ru, .bool go, .slice a n c] :=
  .inr ⟨_, rfl, fun j u hu => by
    rw [Addr.add_lit, Nat.zero_add, World.cell?_alloc_at (w := w) _ _ _ _ rfl]
    rw [← hu]
    simp⟩
theorem five_one (nu pe ru : Int) (go : Bool) (a : Option Addr) (n c : Nat) : ∀ u ∈ ([.int .i64 nu, .int .i64 pe, .int .i64 ru, .bool go, .slice a n c] : List Value), u.oneCell' = true := by
  intro u hu
  simp only [List.mem_cons, List.not_mem_nil, or_false] at hu
  rcases hu with rfl | rfl | rfl | rfl | rfl <;> rfl
theorem madeS (w : World) : (w.alloc (.cells #[] 44)).ownsRow w.heap.size 44 5 (.slice (some ⟨w.heap.size, 0, none⟩) 0 0) 0 [] := World.ownsRow_made (w := w) #[] 0 (Nat.le_refl _) (Nat.zero_le _) rfl
theorem slV_one (r : Sl) (a : Option Addr) (c : Nat) : ∀ u ∈ slV r a c, u.oneCell' = true := by
  intro u hu
  simp only [slV, List.mem_cons, List.not_mem_nil, or_false] at hu
  rcases hu with rfl | rfl | rfl | rfl | rfl <;> rfl
/-- The slips l, and one more, in a row. -/
theorem cameS_more {w w0 : World} {B g n c : Nat} {l : List Sl} {A : Nat → Option Addr × Nat} {s : Sl} {ax : Option Addr} {cx : Nat} (h : w.ownsRow B 44 5 (.slice (some ⟨g, 0, none⟩) (n + 1) c) (n + 1) ((List.range (n * 5)).map (cellS l A) ++ slV s ax cx)) (hn : l.length = n) (hA : ∀ j, j < n → PsAt w0 (A j).1 (snth l j).tot) (hs : PsAt w0 ax s.tot) (hb : Go.RowKit.Below w0.heap.size w0 w) : CameS w (some ⟨g, 0, none⟩) (l ++ [s]) := by
  have hcell : ∀ j, j < (n + 1) * 5 → w.cell? ⟨g, j, none⟩ = ((List.range (n * 5)).map (cellS l A) ++ slV s ax cx)[j]? := fun j hj => World.ownsRow.cellAt h j hj
  refine .inr ⟨g, 0, rfl, (World.ownsRow.lt h g rfl).2, fun j hj => ?_⟩
  rw [List.length_append, List.length_singleton, hn] at hj
  by_cases hlt : j < n
  · have e : snth (l ++ [s]) j = snth l j := by
      unfold snth
      rw [List.getD_eq_getElem?_getD, List.getD_eq_getElem?_getD, List.getElem?_append_left (by omega)]
    rw [e, Nat.zero_add]
    have q : ∀ i, i < 5 → w.cell? ⟨g, j * 5 + i, none⟩ = some (cellS l A (j * 5 + i)) := fun i hi => by
      rw [hcell _ (by omega), List.getElem?_append_left (by simp; omega), List.getElem?_map, List.getElem?_range (by omega)]
      rfl
    have q0 := q 0 (by omega)
    have q1 := q 1 (by omega)
    have q2 := q 2 (by omega)
    have q3 := q 3 (by omega)
    have q4 := q 4 (by omega)
    unfold cellS at q0 q1 q2 q3 q4
    rw [show (j * 5 + 0) / 5 = j by omega, if_pos (by omega)] at q0
    rw [show (j * 5 + 1) / 5 = j by omega, if_neg (by omega), if_pos (by omega)] at q1
    rw [show (j * 5 + 2) / 5 = j by omega, if_neg (by omega), if_neg (by omega), if_pos (by omega)] at q2
    rw [show (j * 5 + 3) / 5 = j by omega, if_neg (by omega), if_neg (by omega), if_neg (by omega), if_pos (by omega)] at q3
    rw [show (j * 5 + 4) / 5 = j by omega, if_neg (by omega), if_neg (by omega), if_neg (by omega), if_neg (by omega)] at q4
    exact ⟨⟨q0, q1, q2, q3⟩, _, _, q4, (hA j hlt).below hb⟩
  · obtain rfl : j = n := by omega
    have e : snth (l ++ [s]) j = s := by
      unfold snth
      rw [List.getD_eq_getElem?_getD, List.getElem?_append_right (by omega), hn, Nat.sub_self]
      rfl
    rw [e, Nat.zero_add]
    have q : ∀ i, i < 5 → w.cell? ⟨g, j * 5 + i, none⟩ = (slV s ax cx)[i]? := fun i hi => by
      rw [hcell _ (by omega), List.getElem?_append_right (by simp)]
      simp
    exact ⟨⟨q 0 (by omega), q 1 (by omega), q 2 (by omega), q 3 (by omega)⟩, ax, cx, q 4 (by omega), hs.below hb⟩
theorem voidE_last {l : List Sl} {s : Sl} (h : voidE (l ++ [s]) s.num false = 0) (hg : s.gone = false) : slE (l ++ [s]) = 0 ∧ voidL (l ++ [s]) s.num = l ++ [goneS s] ∧ voidG (l ++ [s]) s.num = [s.num] := by
  obtain ⟨h0, hf, _⟩ := voidE_facts h
  have hup := (slE_ok h0).2.2
  have hlen : (l ++ [s]).length = l.length + 1 := by simp
  have hs : snth (l ++ [s]) l.length = s := by unfold snth; simp [List.getD_eq_getElem?_getD]
  have hfn : fstN (l ++ [s]) s.num = l.length := by
    have := fstN_self hup (j := l.length) (by omega)
    rwa [hs] at this
  have hmt : mt s.per s = true := by unfold mt; rw [hg]; simp
  refine ⟨h0, ?_, ?_⟩
  · unfold voidL
    rw [hfn, hs]
    refine snth_ext (by rw [vd_len]; simp) fun j hj => ?_
    rw [vd_len] at hj
    rw [snth_vd hj]
    by_cases e : j = l.length
    · subst e
      rw [hs, if_pos ⟨Nat.le_refl _, hmt⟩]
      unfold snth; simp [List.getD_eq_getElem?_getD]
    · rw [if_neg (by omega)]
      unfold snth
      rw [List.getD_eq_getElem?_getD, List.getD_eq_getElem?_getD, List.getElem?_append_left (by omega), List.getElem?_append_left (by omega)]
  · unfold voidG
    rw [hfn, hs]
    unfold gn
    simp [hmt]
theorem slE_gone {l : List Sl} {s : Sl} : slE (l ++ [goneS s]) = slE (l ++ [s]) := slE_congr (by simp) fun j hj => by
  have hl : (l ++ [goneS s]).length = l.length + 1 := by simp
  by_cases e : j = l.length
  · subst e
    unfold snth
    simp [List.getD_eq_getElem?_getD]
    exact ⟨rfl, rfl⟩
  · unfold snth
    rw [List.getD_eq_getElem?_getD, List.getD_eq_getElem?_getD, List.getElem?_append_left (by omega), List.getElem?_append_left (by omega)]
    exact ⟨rfl, rfl⟩
theorem amsOf_gone {l : List Sl} {s : Sl} {p : Int} : amsOf (l ++ [goneS s]) p = amsOf l p := by
  unfold amsOf
  have : mt p (goneS s) = false := by unfold mt goneS; simp
  simp [this]
theorem TotRet.zero {w : World} {v : Value} {l : List Sl} {p : Int} (h : TotRet w v 0 l p) : slE l = 0 := by
  rcases h with ⟨h1, h2, _⟩ | ⟨_, _, h, _⟩ | ⟨h, _⟩
  · exact absurd h2.symm h1
  · cases h
  · exact h
set_option maxRecDepth 100000 in
set_option maxHeartbeats 4000000 in
theorem walk_slipBefore (a : Option Addr) (n cap : Nat) (l : List Sl) {w : World} (hc : CameS w a l) (hn : l.length = n) (_ : n ≤ maxLen) (_ : ∀ j, j < n → WfSl (snth l j)) (hsz : n * 56 ≤ 140737488351232) (r : Sl) (ax : Option Addr) (cx : Nat) (hp : PsAt w ax r.tot) (_ : WfSl r) :
    Calls Try.prog 8 #[.slice a n cap, .agg #[.int .i64 r.num, .int .i64 r.per, .int .i64 r.run, .bool r.gone, .slice ax r.tot.length cx]] w fun e w' => e = .returned (.bool true) ∧ Go.RowKit.Below w.heap.size w w' := by
  have HC := Lib.hid hc
  have HN := Lib.hid hn
  have HSZ := Lib.hid hsz
  have HP := Lib.hid hp
  have HB0 := Lib.hid (kbelow_box w (.cells #[.int .i64 r.num, .int .i64 r.per, .int .i64 r.run, .bool r.gone, .slice ax r.tot.length cx] 44))
  clear hc hn hsz hp
  obtain ⟨nu, pe, ru, go, tt⟩ := r
  dsimp only at HP HB0 ⊢
  go_enter Try.func8, Try.ntmps8
  go_wp2_with fail
  refine (slipBegun_any _).mono ?_
  rintro e w1 ⟨rfl, hb⟩
  have HB1 := Lib.hid (HB0.out.trans (hb.mono HB0.out.size))
  have hlt0 : w.heap.size < (w.alloc (.cells #[.int .i64 nu, .int .i64 pe, .int .i64 ru, .bool go, .slice ax tt.length cx] 44)).heap.size := by simp
  have x0 : w1.cell? ⟨w.heap.size, 0, none⟩ = some (.int .i64 nu) := (hb.cell (p := ⟨w.heap.size, 0, none⟩) hlt0).trans (by simp)
  have x1 : w1.cell? ⟨w.heap.size, 1, none⟩ = some (.int .i64 pe) := (hb.cell (p := ⟨w.heap.size, 1, none⟩) hlt0).trans (by simp)
  have x2 : w1.cell? ⟨w.heap.size, 2, none⟩ = some (.int .i64 ru) := (hb.cell (p := ⟨w.heap.size, 2, none⟩) hlt0).trans (by simp)
  have x3 : w1.cell? ⟨w.heap.size, 3, none⟩ = some (.bool go) := (hb.cell (p := ⟨w.heap.size, 3, none⟩) hlt0).trans (by simp)
  have x4 : w1.cell? ⟨w.heap.size, 4, none⟩ = some (.slice ax tt.length cx) := (hb.cell (p := ⟨w.heap.size, 4, none⟩) hlt0).trans (by simp)
  have hfr : w1.frozen? ⟨w.heap.size, 3, none⟩ = false := (hb.frozen (p := ⟨w.heap.size, 3, none⟩) hlt0).trans (by simp)
  clear hb hlt0
  go_wp2_with fail
  have hne3 : ∀ o, o ≠ 3 → (w1.setCell ⟨w.heap.size, 3, none⟩ (.bool false)).cell? ⟨w.heap.size, o, none⟩ = w1.cell? ⟨w.heap.size, o, none⟩ := fun o ho => by rw [World.cell?_setCell_other (h := fun e => by injection e; omega)]
  have y0 := (hne3 0 (by decide)).trans x0
  have y1 := (hne3 1 (by decide)).trans x1
  have y2 := (hne3 2 (by decide)).trans x2
  have y4 := (hne3 4 (by decide)).trans x4
  have y3 : (w1.setCell ⟨w.heap.size, 3, none⟩ (.bool false)).cell? ⟨w.heap.size, 3, none⟩ = some (.bool false) := World.cell?_setCell_same _ _ _ x3
  have HBW := Lib.hid (HB1.out.setCell (p := ⟨w.heap.size, 3, none⟩) (Nat.le_refl _) (.bool false))
  have hlt2 : w.heap.size < (w1.setCell ⟨w.heap.size, 3, none⟩ (.bool false)).heap.size := by simpa using oblt_of_cell x0
  clear x0 x1 x2 x3 x4 hfr hne3
  generalize (w1.setCell ⟨w.heap.size, 3, none⟩ (.bool false)) = W at *
  obtain ⟨A, hsrc, hA⟩ := cellS_of (HC.out.below HBW.out) HN.out
  have hS0 : SrcIs W a n ((List.range (n * 5)).map (cellS l A)) := by
    rcases hsrc with h | ⟨b, off, e, h⟩
    · exact .inl h
    · refine .inr ⟨_, e, fun j u hu => ?_⟩
      have hj : j < n * 5 := by
        by_cases h' : j < ((List.range (n * 5)).map (cellS l A)).length
        · simpa using h'
        · rw [List.getElem?_eq_none (by omega)] at hu; cases hu
      rw [Addr.add_lit, h j hj]
      simpa [hj] using hu
  have HU : Hid (∀ U, Go.RowKit.Below W.heap.size W U → SrcIs U a n ((List.range (n * 5)).map (cellS l A))) := fun U hU => hS0.below hU
  have HA := Lib.hid hA
  have HPW := Lib.hid (HP.out.below HBW.out)
  clear hsrc hA hS0
  obtain ⟨xs, hxs⟩ : ∃ xs, (List.range (n * 5)).map (cellS l A) = xs := ⟨_, rfl⟩
  have HXS := Lib.hid hxs
  have HXL : Hid (xs.length = n * 5) := Lib.hid (by rw [← hxs]; simp)
  have HX1 : Hid (∀ u ∈ xs, u.oneCell' = true) := Lib.hid (by
    intro u hu
    rw [← hxs] at hu
    obtain ⟨j, _, rfl⟩ := List.mem_map.1 hu
    exact cellS_one l A j)
  rw [hxs] at HU
  clear hxs
  obtain ⟨nt, hnt⟩ : ∃ nt, tt.length = nt := ⟨_, rfl⟩
  have HNT := Lib.hid hnt
  rw [hnt] at y4
  have hlt2' : w.heap.size ≠ W.heap.size + 1 := by omega
  have hlt2'' : w.heap.size ≠ W.heap.size := by omega
  have HG2 : Hid (((W.alloc (.cells #[.int .i64 nu, .int .i64 pe, .int .i64 ru, .bool false, .slice ax nt cx] 44)).alloc (.cells #[] 44)).drew.ownsRow W.heap.size 44 5 (.slice (some ⟨W.heap.size + 1, 0, none⟩) 0 0) 0 []) := by
    have h := World.ownsRow_made (w := W.alloc (.cells #[.int .i64 nu, .int .i64 pe, .int .i64 ru, .bool false, .slice ax nt cx] 44)) (base := W.heap.size) (e := 44) (size := 5) #[] 0 (by simp) (Nat.zero_le _) rfl
    rwa [show (W.alloc (.cells #[.int .i64 nu, .int .i64 pe, .int .i64 ru, .bool false, .slice ax nt cx] 44)).heap.size = W.heap.size + 1 from by simp] at h
  clear hnt
  go_region_held3 (fun w' => w'.cell? ⟨w.heap.size, 0, none⟩ = some (.int .i64 nu) ∧ w'.cell? ⟨w.heap.size, 1, none⟩ = some (.int .i64 pe) ∧ w'.cell? ⟨w.heap.size, 2, none⟩ = some (.int .i64 ru) ∧ w'.cell? ⟨w.heap.size, 3, none⟩ = some (.bool false) ∧ w'.cell? ⟨w.heap.size, 4, none⟩ = some (.slice ax nt cx)) (first | go_keep | (refine ⟨?_, ?_, ?_, ?_, ?_⟩ <;> (rw [hgr2.cell hlt2]; simp [*]; done)) | (refine ⟨?_, ?_, ?_, ?_, ?_⟩ <;> (rw [hgr1.cell hlt2]; simp [*]; done)) | (trace_state; fail))
    ((first
      | (refine step_appV _ rfl (.tmp 15) (.tmp 16) (by rfl) W.heap.size (.slice (some ⟨_, 0, none⟩) 0 0) 0 [] (by rfl) (by first | exact madeS W.drew | exact (madeS W.drew).alloc _ | exact HG2.out | (trace_state; fail)) a n cap xs (by rfl) HXL.out (HU.out _ (by first | exact (Below.refl _ _).drew.alloc (by simp) _ | exact ((Below.refl _ _).drew.alloc (by simp) _).alloc (by simp) _ | (trace_state; fail))) HX1.out (by have := HSZ.out; omega) (by simp <;> omega) ?_; intro v1 w3 hg1 hgr1 hro1)
      | (refine step_appV _ rfl (.tmp 17) (.tmp 19) (by rfl) W.heap.size _ _ _ (by rfl) (by first | exact hg1 | exact hg1.alloc _) (some ⟨_, 0, none⟩) 1 1 [.int .i64 nu, .int .i64 pe, .int .i64 ru, .bool false, .slice ax nt cx] (by rfl) rfl (by first | exact srcS_box w3 nu pe ru false ax nt cx | (have h := (srcS_box (W.drew.alloc (.cells #[] 44)) nu pe ru false ax nt cx).grown hro1 (by simp [Value.ownBlock]); simpa using h) | exact (((srcS_box W.drew nu pe ru false ax nt cx).alloc _).grown hro1 (by simp [Value.ownBlock])) | (trace_state; fail)) (five_one nu pe ru false ax nt cx) (by have := HSZ.out; omega) (by have := hgr1.size; simp at this ⊢; omega) ?_; intro v2 w4 hg2 hgr2 hro2)
      | (trace_state; fail)))
  · have hb4 : Go.RowKit.Below W.heap.size W w4 := (((((Below.refl W.heap.size W).drew.alloc (by simp) _).trans hgr1).alloc (by have := hgr1.size; simp at this ⊢; omega) _)).trans hgr2
    rw [Nat.zero_add, List.nil_append] at hg2
    obtain ⟨g2, c2, rfl⟩ : ∃ g2 c2, v2 = .slice (some ⟨g2, 0, none⟩) (n + 1) c2 := by
      rcases hg2.2 with ⟨_, h⟩ | ⟨g2, c2, _, h, _⟩
      · omega
      · exact ⟨g2, c2, h⟩
    have hcm : CameS w4 (some ⟨g2, 0, none⟩) (l ++ [⟨nu, pe, ru, false, tt⟩]) := by
      refine cameS_more (w0 := W) (B := W.heap.size) (n := n) (c := c2) (A := A) (ax := ax) (cx := cx) ?_ HN.out HA.out HPW.out hb4
      unfold slV
      dsimp only
      rw [HXS.out, HNT.out]
      exact hg2
    have HCM := Lib.hid hcm
    have HB4 := Lib.hid (HBW.out.trans (hb4.mono (Nat.le_of_lt hlt2)))
    have HBX := Lib.hid hb4
    have HLT := Lib.hid hlt2
    have z0 := (hb4.cell (p := ⟨w.heap.size, 0, none⟩) hlt2).trans y0
    have z1 := (hb4.cell (p := ⟨w.heap.size, 1, none⟩) hlt2).trans y1
    have HZ0 := Lib.hid z0
    have HZ1 := Lib.hid z1
    have HLL : Hid ((l ++ [(⟨nu, pe, ru, false, tt⟩ : Sl)]).length = n + 1) := Lib.hid (by simp [HN.out])
    clear hg1 hgr1 hro1 hg2 hgr2 hro2 hb4 hcm y0 y1 y2 y3 y4 HG2 HU hlt2 hlt2' hlt2'' HBX
    go_wp2_with fail
    refine (Totals_any a n cap l pe _ (HC.out.below HB4.out) HN.out).mono ?_
    rintro e w5 ⟨v5, e5, rfl, hr5, hb5⟩
    have HB5 := Lib.hid (HB4.out.trans (hb5.mono HB4.out.size))
    have HR5 := Lib.hid hr5
    have HC5 := Lib.hid (HCM.out.below hb5)
    have z0 := (hb5.cell (p := ⟨w.heap.size, 0, none⟩) (oblt_of_cell HZ0.out)).trans HZ0.out
    have z1 := (hb5.cell (p := ⟨w.heap.size, 1, none⟩) (oblt_of_cell HZ1.out)).trans HZ1.out
    have HZ0 := Lib.hid z0
    have HZ1 := Lib.hid z1
    clear hr5 hb5 HCM
    go_wp2_with fail
    refine (Void_any _ (n + 1) c2 (l ++ [⟨nu, pe, ru, false, tt⟩]) nu false _ HC5.out HLL.out).mono ?_
    rintro e w6 ⟨v6, u6, rfl, hr6, hb6⟩
    have HB6 := Lib.hid (HB5.out.trans (hb6.mono HB5.out.size))
    have HV6 := Lib.hid hr6.same
    have HR6 := Lib.hid (HR5.out.below hb6)
    have z0 := (hb6.cell (p := ⟨w.heap.size, 0, none⟩) (oblt_of_cell HZ0.out)).trans HZ0.out
    have z1 := (hb6.cell (p := ⟨w.heap.size, 1, none⟩) (oblt_of_cell HZ1.out)).trans HZ1.out
    have HZ0 := Lib.hid z0
    have HZ1 := Lib.hid z1
    clear hr6 hb6
    by_cases he5 : e5 = 0
    · subst he5
      by_cases he6 : voidE (l ++ [(⟨nu, pe, ru, false, tt⟩ : Sl)]) nu false = 0
      · rw [he6]
        obtain ⟨q0, q1, q2⟩ := voidE_last (s := ⟨nu, pe, ru, false, tt⟩) he6 rfl
        obtain ⟨hs6, hu6⟩ := HV6.out.2 he6
        rw [q1] at hs6
        rw [q2] at hu6
        obtain ⟨sx, sc, es, hsc⟩ := hs6
        have hln : (l ++ [goneS (⟨nu, pe, ru, false, tt⟩ : Sl)]).length = n + 1 := by simp [HN.out]
        rw [hln] at es
        subst es
        have HLN := Lib.hid hln
        have HSC := Lib.hid hsc
        have HU6 := Lib.hid hu6
        have HQ0 := Lib.hid q0
        clear he6 q0 q1 q2 hu6 hsc hln HV6
        go_wp2_with fail
        refine (Totals_any sx (n + 1) sc (l ++ [goneS ⟨nu, pe, ru, false, tt⟩]) pe _ HSC.out HLN.out).mono ?_
        rintro e w7 ⟨v7, e7, rfl, hr7, hb7⟩
        obtain ⟨he57, am, hal, ha5, ha7⟩ := (HR6.out.below hb7).det hr7 (by rw [HR5.out.zero, slE_gone, HQ0.out]) amsOf_gone.symm
        subst he57
        have HB7 := Lib.hid (HB6.out.trans (hb7.mono HB6.out.size))
        have HA5 := Lib.hid ha5
        have HA7 := Lib.hid ha7
        have HAL := Lib.hid hal
        have HU7 := Lib.hid (HU6.out.below hb7)
        have z0 := (hb7.cell (p := ⟨w.heap.size, 0, none⟩) (oblt_of_cell HZ0.out)).trans HZ0.out
        clear hr7 hb7 ha5 ha7 hal
        go_wp2_with fail
        refine (asame_yes v5 v7 am _ HAL.out HA5.out HA7.out).mono ?_
        rintro e w8 ⟨rfl, qd, hw8⟩
        subst hw8
        have HB8 := Lib.hid (kbelow_dN HB7.out qd)
        have HU8 := Lib.hid (HU7.out.below (kbelow_dN (Below.refl _ w7) qd))
        have hi1 : CameI ((w7.drewN qd).alloc (.cells #[.int .i64 nu] 3)) (.slice (some ⟨w7.heap.size, 0, none⟩) 1 1) [nu] := ⟨_, _, rfl, ⟨by simp, by simp [maxLen]⟩, .inr ⟨_, _, rfl, by simp [World.drewN], fun j hj => by
          obtain rfl : j = 0 := by simpa using hj
          exact (World.cell?_alloc_at _ _ _ _ rfl).trans rfl⟩⟩
        have HI1 := Lib.hid hi1
        clear hi1
        go_wp2_with fail
        refine (sameI_yes u6 _ [nu] _ (by simp) (HU8.out.below (kbelow_box _ _)) HI1.out).mono ?_
        rintro e w9 ⟨rfl, qe, hw9⟩
        subst hw9
        have HB9 := Lib.hid (kbelow_dN (HB8.out.alloc HB8.out.size (.cells #[.int .i64 nu] 3)) qe)
        go_wp2_with fail
        go_ret
        exact ⟨kret_bool (by first | rfl | simp), HB9.out⟩
      · have h6 : (voidE (l ++ [(⟨nu, pe, ru, false, tt⟩ : Sl)]) nu false != 0) = true := by simp [he6]
        obtain ⟨er, her⟩ : ∃ er, voidE (l ++ [(⟨nu, pe, ru, false, tt⟩ : Sl)]) nu false = er := ⟨_, rfl⟩
        rw [her] at h6 ⊢
        clear he6 her HV6
        go_wp2_with fail
        go_ret
        exact ⟨rfl, HB6.out⟩
    · have h5 : (e5 != 0) = true := by simp [he5]
      obtain ⟨er, her⟩ : ∃ er, voidE (l ++ [(⟨nu, pe, ru, false, tt⟩ : Sl)]) nu false = er := ⟨_, rfl⟩
      rw [her]
      clear he5 her HV6 HR5 HR6
      go_wp2_with fail
      go_ret
      exact ⟨rfl, HB6.out⟩
  · have hb4 : Go.RowKit.Below W.heap.size W w4 := (((((Below.refl W.heap.size W).drew.alloc (by simp) _).alloc (by simp) _).trans hgr1)).trans hgr2
    rw [Nat.zero_add, List.nil_append] at hg2
    obtain ⟨g2, c2, rfl⟩ : ∃ g2 c2, v2 = .slice (some ⟨g2, 0, none⟩) (n + 1) c2 := by
      rcases hg2.2 with ⟨_, h⟩ | ⟨g2, c2, _, h, _⟩
      · omega
      · exact ⟨g2, c2, h⟩
    have hcm : CameS w4 (some ⟨g2, 0, none⟩) (l ++ [⟨nu, pe, ru, false, tt⟩]) := by
      refine cameS_more (w0 := W) (B := W.heap.size) (n := n) (c := c2) (A := A) (ax := ax) (cx := cx) ?_ HN.out HA.out HPW.out hb4
      unfold slV
      dsimp only
      rw [HXS.out, HNT.out]
      exact hg2
    have HCM := Lib.hid hcm
    have HB4 := Lib.hid (HBW.out.trans (hb4.mono (Nat.le_of_lt hlt2)))
    have HBX := Lib.hid hb4
    have HLT := Lib.hid hlt2
    have z0 := (hb4.cell (p := ⟨w.heap.size, 0, none⟩) hlt2).trans y0
    have z1 := (hb4.cell (p := ⟨w.heap.size, 1, none⟩) hlt2).trans y1
    have HZ0 := Lib.hid z0
    have HZ1 := Lib.hid z1
    have HLL : Hid ((l ++ [(⟨nu, pe, ru, false, tt⟩ : Sl)]).length = n + 1) := Lib.hid (by simp [HN.out])
    clear hg1 hgr1 hro1 hg2 hgr2 hro2 hb4 hcm y0 y1 y2 y3 y4 HG2 HU hlt2 hlt2' hlt2'' HBX
    go_wp2_with fail
    refine (Totals_any a n cap l pe _ (HC.out.below HB4.out) HN.out).mono ?_
    rintro e w5 ⟨v5, e5, rfl, hr5, hb5⟩
    have HB5 := Lib.hid (HB4.out.trans (hb5.mono HB4.out.size))
    have HR5 := Lib.hid hr5
    have HC5 := Lib.hid (HCM.out.below hb5)
    have z0 := (hb5.cell (p := ⟨w.heap.size, 0, none⟩) (oblt_of_cell HZ0.out)).trans HZ0.out
    have z1 := (hb5.cell (p := ⟨w.heap.size, 1, none⟩) (oblt_of_cell HZ1.out)).trans HZ1.out
    have HZ0 := Lib.hid z0
    have HZ1 := Lib.hid z1
    clear hr5 hb5 HCM
    go_wp2_with fail
    refine (Void_any _ (n + 1) c2 (l ++ [⟨nu, pe, ru, false, tt⟩]) nu false _ HC5.out HLL.out).mono ?_
    rintro e w6 ⟨v6, u6, rfl, hr6, hb6⟩
    have HB6 := Lib.hid (HB5.out.trans (hb6.mono HB5.out.size))
    have HV6 := Lib.hid hr6.same
    have HR6 := Lib.hid (HR5.out.below hb6)
    have z0 := (hb6.cell (p := ⟨w.heap.size, 0, none⟩) (oblt_of_cell HZ0.out)).trans HZ0.out
    have z1 := (hb6.cell (p := ⟨w.heap.size, 1, none⟩) (oblt_of_cell HZ1.out)).trans HZ1.out
    have HZ0 := Lib.hid z0
    have HZ1 := Lib.hid z1
    clear hr6 hb6
    by_cases he5 : e5 = 0
    · subst he5
      by_cases he6 : voidE (l ++ [(⟨nu, pe, ru, false, tt⟩ : Sl)]) nu false = 0
      · rw [he6]
        obtain ⟨q0, q1, q2⟩ := voidE_last (s := ⟨nu, pe, ru, false, tt⟩) he6 rfl
        obtain ⟨hs6, hu6⟩ := HV6.out.2 he6
        rw [q1] at hs6
        rw [q2] at hu6
        obtain ⟨sx, sc, es, hsc⟩ := hs6
        have hln : (l ++ [goneS (⟨nu, pe, ru, false, tt⟩ : Sl)]).length = n + 1 := by simp [HN.out]
        rw [hln] at es
        subst es
        have HLN := Lib.hid hln
        have HSC := Lib.hid hsc
        have HU6 := Lib.hid hu6
        have HQ0 := Lib.hid q0
        clear he6 q0 q1 q2 hu6 hsc hln HV6
        go_wp2_with fail
        refine (Totals_any sx (n + 1) sc (l ++ [goneS ⟨nu, pe, ru, false, tt⟩]) pe _ HSC.out HLN.out).mono ?_
        rintro e w7 ⟨v7, e7, rfl, hr7, hb7⟩
        obtain ⟨he57, am, hal, ha5, ha7⟩ := (HR6.out.below hb7).det hr7 (by rw [HR5.out.zero, slE_gone, HQ0.out]) amsOf_gone.symm
        subst he57
        have HB7 := Lib.hid (HB6.out.trans (hb7.mono HB6.out.size))
        have HA5 := Lib.hid ha5
        have HA7 := Lib.hid ha7
        have HAL := Lib.hid hal
        have HU7 := Lib.hid (HU6.out.below hb7)
        have z0 := (hb7.cell (p := ⟨w.heap.size, 0, none⟩) (oblt_of_cell HZ0.out)).trans HZ0.out
        clear hr7 hb7 ha5 ha7 hal
        go_wp2_with fail
        refine (asame_yes v5 v7 am _ HAL.out HA5.out HA7.out).mono ?_
        rintro e w8 ⟨rfl, qd, hw8⟩
        subst hw8
        have HB8 := Lib.hid (kbelow_dN HB7.out qd)
        have HU8 := Lib.hid (HU7.out.below (kbelow_dN (Below.refl _ w7) qd))
        have hi1 : CameI ((w7.drewN qd).alloc (.cells #[.int .i64 nu] 3)) (.slice (some ⟨w7.heap.size, 0, none⟩) 1 1) [nu] := ⟨_, _, rfl, ⟨by simp, by simp [maxLen]⟩, .inr ⟨_, _, rfl, by simp [World.drewN], fun j hj => by
          obtain rfl : j = 0 := by simpa using hj
          exact (World.cell?_alloc_at _ _ _ _ rfl).trans rfl⟩⟩
        have HI1 := Lib.hid hi1
        clear hi1
        go_wp2_with fail
        refine (sameI_yes u6 _ [nu] _ (by simp) (HU8.out.below (kbelow_box _ _)) HI1.out).mono ?_
        rintro e w9 ⟨rfl, qe, hw9⟩
        subst hw9
        have HB9 := Lib.hid (kbelow_dN (HB8.out.alloc HB8.out.size (.cells #[.int .i64 nu] 3)) qe)
        go_wp2_with fail
        go_ret
        exact ⟨kret_bool (by first | rfl | simp), HB9.out⟩
      · have h6 : (voidE (l ++ [(⟨nu, pe, ru, false, tt⟩ : Sl)]) nu false != 0) = true := by simp [he6]
        obtain ⟨er, her⟩ : ∃ er, voidE (l ++ [(⟨nu, pe, ru, false, tt⟩ : Sl)]) nu false = er := ⟨_, rfl⟩
        rw [her] at h6 ⊢
        clear he6 her HV6
        go_wp2_with fail
        go_ret
        exact ⟨rfl, HB6.out⟩
    · have h5 : (e5 != 0) = true := by simp [he5]
      obtain ⟨er, her⟩ : ∃ er, voidE (l ++ [(⟨nu, pe, ru, false, tt⟩ : Sl)]) nu false = er := ⟨_, rfl⟩
      rw [her]
      clear he5 her HV6 HR5 HR6
      go_wp2_with fail
      go_ret
      exact ⟨rfl, HB6.out⟩
  · have hb4 : Go.RowKit.Below W.heap.size W w4 := (((((Below.refl W.heap.size W).drew.alloc (by simp) _).alloc (by simp) _).trans hgr1)).trans hgr2
    rw [Nat.zero_add, List.nil_append] at hg2
    obtain ⟨g2, c2, rfl⟩ : ∃ g2 c2, v2 = .slice (some ⟨g2, 0, none⟩) (n + 1) c2 := by
      rcases hg2.2 with ⟨_, h⟩ | ⟨g2, c2, _, h, _⟩
      · omega
      · exact ⟨g2, c2, h⟩
    have hcm : CameS w4 (some ⟨g2, 0, none⟩) (l ++ [⟨nu, pe, ru, false, tt⟩]) := by
      refine cameS_more (w0 := W) (B := W.heap.size) (n := n) (c := c2) (A := A) (ax := ax) (cx := cx) ?_ HN.out HA.out HPW.out hb4
      unfold slV
      dsimp only
      rw [HXS.out, HNT.out]
      exact hg2
    have HCM := Lib.hid hcm
    have HB4 := Lib.hid (HBW.out.trans (hb4.mono (Nat.le_of_lt hlt2)))
    have HBX := Lib.hid hb4
    have HLT := Lib.hid hlt2
    have z0 := (hb4.cell (p := ⟨w.heap.size, 0, none⟩) hlt2).trans y0
    have z1 := (hb4.cell (p := ⟨w.heap.size, 1, none⟩) hlt2).trans y1
    have HZ0 := Lib.hid z0
    have HZ1 := Lib.hid z1
    have HLL : Hid ((l ++ [(⟨nu, pe, ru, false, tt⟩ : Sl)]).length = n + 1) := Lib.hid (by simp [HN.out])
    clear hg1 hgr1 hro1 hg2 hgr2 hro2 hb4 hcm y0 y1 y2 y3 y4 HG2 HU hlt2 hlt2' hlt2'' HBX
    go_wp2_with fail
    refine (Totals_any a n cap l pe _ (HC.out.below HB4.out) HN.out).mono ?_
    rintro e w5 ⟨v5, e5, rfl, hr5, hb5⟩
    have HB5 := Lib.hid (HB4.out.trans (hb5.mono HB4.out.size))
    have HR5 := Lib.hid hr5
    have HC5 := Lib.hid (HCM.out.below hb5)
    have z0 := (hb5.cell (p := ⟨w.heap.size, 0, none⟩) (oblt_of_cell HZ0.out)).trans HZ0.out
    have z1 := (hb5.cell (p := ⟨w.heap.size, 1, none⟩) (oblt_of_cell HZ1.out)).trans HZ1.out
    have HZ0 := Lib.hid z0
    have HZ1 := Lib.hid z1
    clear hr5 hb5 HCM
    go_wp2_with fail
    refine (Void_any _ (n + 1) c2 (l ++ [⟨nu, pe, ru, false, tt⟩]) nu false _ HC5.out HLL.out).mono ?_
    rintro e w6 ⟨v6, u6, rfl, hr6, hb6⟩
    have HB6 := Lib.hid (HB5.out.trans (hb6.mono HB5.out.size))
    have HV6 := Lib.hid hr6.same
    have HR6 := Lib.hid (HR5.out.below hb6)
    have z0 := (hb6.cell (p := ⟨w.heap.size, 0, none⟩) (oblt_of_cell HZ0.out)).trans HZ0.out
    have z1 := (hb6.cell (p := ⟨w.heap.size, 1, none⟩) (oblt_of_cell HZ1.out)).trans HZ1.out
    have HZ0 := Lib.hid z0
    have HZ1 := Lib.hid z1
    clear hr6 hb6
    by_cases he5 : e5 = 0
    · subst he5
      by_cases he6 : voidE (l ++ [(⟨nu, pe, ru, false, tt⟩ : Sl)]) nu false = 0
      · rw [he6]
        obtain ⟨q0, q1, q2⟩ := voidE_last (s := ⟨nu, pe, ru, false, tt⟩) he6 rfl
        obtain ⟨hs6, hu6⟩ := HV6.out.2 he6
        rw [q1] at hs6
        rw [q2] at hu6
        obtain ⟨sx, sc, es, hsc⟩ := hs6
        have hln : (l ++ [goneS (⟨nu, pe, ru, false, tt⟩ : Sl)]).length = n + 1 := by simp [HN.out]
        rw [hln] at es
        subst es
        have HLN := Lib.hid hln
        have HSC := Lib.hid hsc
        have HU6 := Lib.hid hu6
        have HQ0 := Lib.hid q0
        clear he6 q0 q1 q2 hu6 hsc hln HV6
        go_wp2_with fail
        refine (Totals_any sx (n + 1) sc (l ++ [goneS ⟨nu, pe, ru, false, tt⟩]) pe _ HSC.out HLN.out).mono ?_
        rintro e w7 ⟨v7, e7, rfl, hr7, hb7⟩
        obtain ⟨he57, am, hal, ha5, ha7⟩ := (HR6.out.below hb7).det hr7 (by rw [HR5.out.zero, slE_gone, HQ0.out]) amsOf_gone.symm
        subst he57
        have HB7 := Lib.hid (HB6.out.trans (hb7.mono HB6.out.size))
        have HA5 := Lib.hid ha5
        have HA7 := Lib.hid ha7
        have HAL := Lib.hid hal
        have HU7 := Lib.hid (HU6.out.below hb7)
        have z0 := (hb7.cell (p := ⟨w.heap.size, 0, none⟩) (oblt_of_cell HZ0.out)).trans HZ0.out
        clear hr7 hb7 ha5 ha7 hal
        go_wp2_with fail
        refine (asame_yes v5 v7 am _ HAL.out HA5.out HA7.out).mono ?_
        rintro e w8 ⟨rfl, qd, hw8⟩
        subst hw8
        have HB8 := Lib.hid (kbelow_dN HB7.out qd)
        have HU8 := Lib.hid (HU7.out.below (kbelow_dN (Below.refl _ w7) qd))
        have hi1 : CameI ((w7.drewN qd).alloc (.cells #[.int .i64 nu] 3)) (.slice (some ⟨w7.heap.size, 0, none⟩) 1 1) [nu] := ⟨_, _, rfl, ⟨by simp, by simp [maxLen]⟩, .inr ⟨_, _, rfl, by simp [World.drewN], fun j hj => by
          obtain rfl : j = 0 := by simpa using hj
          exact (World.cell?_alloc_at _ _ _ _ rfl).trans rfl⟩⟩
        have HI1 := Lib.hid hi1
        clear hi1
        go_wp2_with fail
        refine (sameI_yes u6 _ [nu] _ (by simp) (HU8.out.below (kbelow_box _ _)) HI1.out).mono ?_
        rintro e w9 ⟨rfl, qe, hw9⟩
        subst hw9
        have HB9 := Lib.hid (kbelow_dN (HB8.out.alloc HB8.out.size (.cells #[.int .i64 nu] 3)) qe)
        go_wp2_with fail
        go_ret
        exact ⟨kret_bool (by first | rfl | simp), HB9.out⟩
      · have h6 : (voidE (l ++ [(⟨nu, pe, ru, false, tt⟩ : Sl)]) nu false != 0) = true := by simp [he6]
        obtain ⟨er, her⟩ : ∃ er, voidE (l ++ [(⟨nu, pe, ru, false, tt⟩ : Sl)]) nu false = er := ⟨_, rfl⟩
        rw [her] at h6 ⊢
        clear he6 her HV6
        go_wp2_with fail
        go_ret
        exact ⟨rfl, HB6.out⟩
    · have h5 : (e5 != 0) = true := by simp [he5]
      obtain ⟨er, her⟩ : ∃ er, voidE (l ++ [(⟨nu, pe, ru, false, tt⟩ : Sl)]) nu false = er := ⟨_, rfl⟩
      rw [her]
      clear he5 her HV6 HR5 HR6
      go_wp2_with fail
      go_ret
      exact ⟨rfl, HB6.out⟩
end Go.Proofs.Ytopcnnmdnnmgoaa
