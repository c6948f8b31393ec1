/-
  Promise P2, of lists of ints: lists of the call's own that lie apart; walks of the law's twin and spoil, and of Same, Share and Split at such lists.
-/
import Derived.Test.YtckealcgbjgfhaaDoorPSplit
import Derived.Maps.AppendAt
namespace Go.Proofs.YtckealcgbjgfhaaDoor
open Go.RowKit Mny

/-- A list of the call's own, in a block from lo on and ahead of hi. -/
def OwnI (w : World) (lo hi : Nat) (v : Value) (l : List Int) : Prop := (v = .slice none 0 0 ∧ l = []) ∨ ∃ g c, v = .slice (some ⟨g, 0, none⟩) l.length c ∧ lo ≤ g ∧ g < hi ∧ Own w g l
theorem OwnI.below {w w' : World} {lo hi : Nat} {v : Value} {l : List Int} (h : OwnI w lo hi v l) (hb : Below w.heap.size w w') : OwnI w' lo hi v l := by
  rcases h with h | ⟨g, c, h1, h2, h3, h4⟩
  · exact .inl h
  · exact .inr ⟨g, c, h1, h2, h3, Nat.lt_of_lt_of_le h4.1 hb.size, fun j hj => ⟨(hb.cell (p := ⟨g, j, none⟩) h4.1).trans (h4.2 j hj).1, (hb.frozen (p := ⟨g, j, none⟩) h4.1).trans (h4.2 j hj).2⟩⟩
theorem OwnI.came {w : World} {lo hi : Nat} {v : Value} {l : List Int} (h : OwnI w lo hi v l) : ∃ a c, v = .slice a l.length c ∧ Came w a l := by
  rcases h with ⟨h1, h2⟩ | ⟨g, c, h1, _, _, h4⟩
  · subst h2
    exact ⟨none, 0, h1, .inl rfl⟩
  · exact ⟨some ⟨g, 0, none⟩, c, h1, .inr ⟨g, 0, rfl, own_at h4⟩⟩
/-- Only blocks from lo on and ahead of hi have turned. -/
def Only (lo hi : Nat) (w w' : World) : Prop := w'.heap.size = w.heap.size ∧ (∀ k, k < lo ∨ hi ≤ k → w'.heap[k]? = w.heap[k]?) ∧ Below lo w w'
theorem OwnI.only {w w' : World} {lo hi lo2 hi2 : Nat} {v : Value} {l : List Int} (h : OwnI w lo hi v l) (ho : Only lo2 hi2 w w') (hd : hi ≤ lo2 ∨ hi2 ≤ lo) : OwnI w' lo hi v l := by
  rcases h with h | ⟨g, c, h1, h2, h3, h4⟩
  · exact .inl h
  · have hb := ho.2.1 g (by omega)
    exact .inr ⟨g, c, h1, h2, h3, by rw [ho.1]; exact h4.1, fun j hj => ⟨(World.cell?_of_block (a := ⟨g, j, none⟩) hb).trans (h4.2 j hj).1, (World.frozen?_of_block (a := ⟨g, j, none⟩) hb).trans (h4.2 j hj).2⟩⟩

theorem intOne (l : List Int) : ∀ u ∈ l.map (Value.int .i64), u.oneCell' = true := by
  intro u hu
  obtain ⟨x, _, rfl⟩ := List.mem_map.1 hu
  rfl
theorem run_app_ints (w : World) (ty : TypeId) (B : Nat) (v : Value) (l : List Int) (hown : Grow w B v l) (src : Option Addr) (m c : Nat) (news : List Int) (hsrc : Came w src news) (hm : news.length = m)
    (hb : (l.length + m) * 8 ≤ 140737488355328) (hB : B ≤ w.heap.size) :
    ∃ v' w', (Builtin.append_ #[22, 22] ty #[v, .slice src m c]).run Tryd.prog w = .ok v' w' ∧ Grow w' B v' (l ++ news) ∧ w.grownBy w' v.ownBlock := by
  obtain ⟨i0, hi, hz0, hz1, hz2⟩ := info_parts info_int
  cases src with
  | none =>
    have h0 : news.length = 0 := by
      rcases hsrc with h | ⟨b, off, he, _⟩
      · exact h
      · cases he
    have hn : news = [] := List.eq_nil_of_length_eq_zero h0
    subst hn
    obtain rfl : m = 0 := by omega
    refine ⟨v, w, ?_, by rw [List.append_nil]; exact hown, ⟨rfl, rfl, rfl, Nat.le_refl _, fun _ _ _ => rfl⟩⟩
    rcases hown.2 with ⟨rfl, h2⟩ | ⟨g, cap, cur, rfl, h2, h3, h4, _⟩
    · simp [Builtin.append_, run_underlying Tryd.underlying22, sizeOf, typeInfo, hi, Builtin.lenOf, Builtin.firstCells]
    · simp [Builtin.append_, run_underlying Tryd.underlying22, sizeOf, typeInfo, hi, Builtin.lenOf, Builtin.firstCells, h4, storeCells]
  | some ad =>
    have hnews : ∀ j u, (news.map (Value.int .i64))[j]? = some u → w.cell? (ad.add j) = some u := by
      intro j u hu
      rcases hsrc with h | ⟨b, off, he, hr⟩
      · have : news = [] := List.eq_nil_of_length_eq_zero h
        subst this
        simp at hu
      · cases he
        rw [Addr.add_lit]
        have hj : j < news.length := by
          by_cases e : j < news.length
          · exact e
          · rw [List.getElem?_eq_none (by simp; omega)] at hu; cases hu
        rw [hr.2 j hj]
        simp [hj] at hu
        simp [nth, List.getD_eq_getElem?_getD, hj, hu]
    obtain ⟨v', w', h1, h2, h3, _, _⟩ := run_append_own_at (P := Tryd.prog) w B 22 ty 3 i0 _ 1 8 Tryd.underlying22 hi hz0 hz1 hz2 rfl (by decide) v l.length (l.map (Value.int .i64)) hown ad m c (news.map (Value.int .i64)) (by simp [hm]) hnews (intOne news) (by unfold maxLen; omega) hb hB
    refine ⟨v', w', h1, ?_, h3⟩
    unfold Grow
    rw [List.length_append, hm, List.map_append]
    exact h2
theorem wpList_app_ints {ops : Array Oper} {rest : List Oper} {o : Oper} {a : Act} {Q : Exit → Act → World → Prop} (w : World) (hgd : o.guard = none) (s x : Operand)
    (ho : o.op = .call { callee := .builtin .append, args := #[s, x], argTypes := #[22, 22] })
    (B : Nat) (v : Value) (l : List Int) (hs : a.eval s = v) (hown : Grow w B v l) (src : Option Addr) (m c : Nat) (news : List Int) (hx : a.eval x = .slice src m c) (hsrc : Came w src news) (hm : news.length = m)
    (hb : (l.length + m) * 8 ≤ 140737488355328) (hB : B ≤ w.heap.size)
    (h : ∀ v' w', Grow w' B v' (l ++ news) → Below B w w' → wpList Tryd.prog ops Q rest (a.put o.dst v') w') :
    wpList Tryd.prog ops Q (o :: rest) a w := by
  obtain ⟨v', w', hr, h2, h3⟩ := run_app_ints w o.type B v l hown src m c news hsrc hm hb hB
  refine wpList_plain hgd fun _ hK => ?_
  unfold Oper.wp execOp
  simp only [ho, resolve, invoke, builtin, Sem.run_bind, Sem.run_pure, Result.andThen_ok, List.map_toArray, List.map_cons, List.map_nil, hs, hx, hr]
  exact hK _ _ (h v' w' h2 ((Below.refl B w).grown h3 hB fun k hk => (Grow.lt hown k hk).1))
theorem grow_ownI {w : World} {B : Nat} {v : Value} {l : List Int} (h : Grow w B v l) : OwnI w B w.heap.size v l := by
  have hh := h
  rcases h.2 with ⟨h1, h2⟩ | ⟨g, c, cur, h1, h2, _⟩
  · exact .inl ⟨h1, List.eq_nil_of_length_eq_zero h2⟩
  · subst h1
    refine .inr ⟨g, c, rfl, h2, (Grow.lt hh g rfl).2, (Grow.lt hh g rfl).2, fun j hj => ⟨?_, World.ownsRow.frozenAt hh j⟩⟩
    have := World.ownsRow.cellAt hh j (by omega)
    rw [this]
    simp [nth, List.getD_eq_getElem?_getD, hj]
set_option maxHeartbeats 1000000 in
theorem twin_any (a : Option Addr) (n cap : Nat) (l : List Int) (w : World) (hc : Came w a l) (hn : l.length = n) (hsz : n * 8 ≤ 140737488351232) :
    Calls Tryd.prog 6 #[.slice a n cap] w fun e w' => ∃ v, e = .returned v ∧ OwnI w' w.heap.size w'.heap.size v l ∧ Below w.heap.size w w' := by
  have HC := Lib.hid hc
  have HN := Lib.hid hn
  have HS := Lib.hid hsz
  clear hc hn hsz
  go_enter Tryd.func6, Tryd.ntmps6
  go_wp2_with (at_builtin; refine wpList_app_ints _ rfl _ _ rfl w.heap.size _ [] rfl ?hg a n cap l rfl ?hs ?hn ?hb ?hB ?_; rotate_right; intro vt w2 hg2 hb2; refine Hid.out ?_)
  case hg => exact World.ownsRow_made (w := w) #[] 0 (Nat.le_refl _) (Nat.zero_le _) rfl
  case hs => exact HC.out.below ((Below.refl _ _).alloc (Nat.le_refl _) _)
  case hn => exact HN.out
  case hb => have := HS.out; simp; omega
  case hB => simp
  have HG := Lib.hid (grow_ownI hg2)
  have HB := Lib.hid (((Below.refl w.heap.size w).alloc (Nat.le_refl _) _).trans hb2)
  rw [List.nil_append] at HG
  clear hg2 hb2
  refine Lib.hid ?_
  go_wp2_with fail
  go_ret
  exact ⟨_, rfl, HG.out, HB.out⟩
set_option maxRecDepth 100000 in
set_option maxHeartbeats 1000000 in
theorem spoil_any (lo hi : Nat) (v : Value) (l : List Int) (w : World) (h : OwnI w lo hi v l) (hl : l.length ≤ 17592186044416) :
    Calls Tryd.prog 10 #[v] w fun e w' => (∃ x, e = .returned x) ∧ Only lo hi w w' := by
  have only0 : Only lo hi w w := ⟨rfl, fun _ _ => rfl, Below.refl _ _⟩
  rcases h with ⟨rfl, rfl⟩ | ⟨g, c, rfl, hlo, hhi, hown⟩
  · go_enter Tryd.func10, Tryd.ntmps10
    go_wp2_with fail
    go_loop [2] (fun i => i = .int .i64 0) (fun _ => 0)
    case atStart => rfl
    case round =>
      subst hrel
      go_wp2_with fail
      go_end0
      exact ⟨⟨_, rfl⟩, only0⟩
  · have hfz := Lib.hid hown.2
    have hgs := hown.1
    generalize hn : l.length = n at *
    have HN := Lib.hid hn
    have HO := Lib.hid only0
    clear hn hown only0
    go_enter Tryd.func10, Tryd.ntmps10
    go_wp2_with fail
    go_loopw [2] (fun i wr => ∃ k : Nat, k ≤ n ∧ i = .int .i64 k ∧ (∀ j, k ≤ j → j < n → wr.cell? ⟨g, j, none⟩ = some (.int .i64 (nth l j))) ∧ (∀ j, j < n → wr.frozen? ⟨g, j, none⟩ = false) ∧ Only lo hi w wr) (fun i _ => n - (intOf i).toNat)
    case atStart => exact ⟨0, Nat.zero_le _, rfl, fun j _ hj => (hfz.out j hj).1, fun j hj => (hfz.out j hj).2, HO.out⟩
    case round =>
      obtain ⟨k, hk, rfl, hcl, hfr, hon⟩ := hrel
      have HCL := Lib.hid hcl
      have HFR := Lib.hid hfr
      have HON := Lib.hid hon
      clear hcl hfr hon
      by_cases hlt : k < n
      · have hlt' : (k : Int) < (n : Int) := by omega
        have x0 := HCL.out k (Nat.le_refl _) hlt
        have z0 := HFR.out k hlt
        have HON2 : Hid (Only lo hi w (wr.setCell ⟨g, k, none⟩ (.int .i64 (-7)))) := by
          obtain ⟨o1, o2, o3⟩ := HON.out
          exact ⟨by simpa using o1, fun q hq => (heap_setCell_other wr ⟨g, k, none⟩ q _ (fun e => by subst e; omega)).trans (o2 q hq), o3.setCell hlo _⟩
        have HCL2 : Hid (∀ j, k + 1 ≤ j → j < n → (wr.setCell ⟨g, k, none⟩ (.int .i64 (-7))).cell? ⟨g, j, none⟩ = some (.int .i64 (nth l j))) := fun j h1 h2 => by
          rw [World.cell?_setCell_other (h := (by intro e; cases e; omega))]
          exact HCL.out j (by omega) h2
        have HFR2 : Hid (∀ j, j < n → (wr.setCell ⟨g, k, none⟩ (.int .i64 (-7))).frozen? ⟨g, j, none⟩ = false) := fun j hj => by rw [World.frozen?_setCell]; exact HFR.out j hj
        go_wp2_with fail
        go_roundw
        case rel => exact ⟨k + 1, by omega, by go_num, HCL2.out, HFR2.out, HON2.out⟩
        case measure => simp [intOf]; omega
      · obtain rfl : k = n := by omega
        have hlB : decide ((k : Int) < (k : Int)) = false := decide_eq_false (by omega)
        go_wp2_with fail
        go_end0
        exact ⟨⟨_, rfl⟩, HON.out⟩
set_option maxRecDepth 100000 in
set_option maxHeartbeats 1000000 in
theorem same_big (b1 o1 c1 b2 o2 c2 : Nat) (l : List Int) (w : World) (hl : l.length ≤ 17592186044416) (h1 : At w b1 o1 l) (h2 : At w b2 o2 l) :
    Calls Tryd.prog 9 #[.slice (some ⟨b1, o1, none⟩) l.length c1, .slice (some ⟨b2, o2, none⟩) l.length c2] w fun e w' => e = .returned (.bool true) ∧ ∃ k, w' = w.drewN k := by
  generalize hn : l.length = n at *
  have hc1 : ∀ j, j < n → w.cell? ⟨b1, o1 + j, none⟩ = some (.int .i64 (nth l j)) := fun j hj => h1.2 j (by omega)
  have hc2 : ∀ j, j < n → w.cell? ⟨b2, o2 + j, none⟩ = some (.int .i64 (nth l j)) := fun j hj => h2.2 j (by omega)
  clear h1 h2 hn
  have H1 : Hid (∀ j, j < n → w.cell? ⟨b1, o1 + j, none⟩ = some (.int .i64 (nth l j))) := hc1
  have H2 : Hid (∀ j, j < n → w.cell? ⟨b2, o2 + j, none⟩ = some (.int .i64 (nth l j))) := hc2
  clear hc1 hc2
  have hb : ((n : Int) != (n : Int)) = false := by simp
  go_enter Tryd.func9, Tryd.ntmps9
  go_wp2
  go_loopw [5] (fun i wr => ∃ k : Nat, k ≤ n ∧ i = .int .i64 k ∧ ∃ q, wr = w.drewN q) (fun i _ => n - (intOf i).toNat)
  case atStart => exact ⟨0, Nat.zero_le _, rfl, 0, rfl⟩
  case round =>
    obtain ⟨k, hk, rfl, q, rfl⟩ := hrel
    by_cases hlt : k < n
    · have x1 := H1.out k hlt
      have x2 := H2.out k hlt
      have hlt' : (k : Int) < (n : Int) := by omega
      go_wp2
      go_quiet (fail)
      go_wp2
      go_roundw
      case rel => exact ⟨k + 1, by omega, by go_num, _, rfl⟩
      case measure => simp [intOf]; omega
    · go_wp2
      go_ret
      exact ⟨rfl, _, rfl⟩
theorem same_zero (a b : Option Addr) (c d : Nat) (w : World) : Calls Tryd.prog 9 #[.slice a 0 c, .slice b 0 d] w fun e w' => e = .returned (.bool true) ∧ w' = w := by
  go_enter Tryd.func9, Tryd.ntmps9
  go_wp2
  go_loop [5] (fun i => i = .int .i64 0) (fun _ => 0)
  case atStart => rfl
  case round =>
    subst hrel
    go_wp2
    go_ret
    exact ⟨rfl, rfl⟩
/-- Same at two lists that hold the same. -/
theorem same_came (a b : Option Addr) (c d n : Nat) (l : List Int) (w : World) (hn : l.length = n) (hl : n ≤ 17592186044416) (h1 : Came w a l) (h2 : Came w b l) :
    Calls Tryd.prog 9 #[.slice a n c, .slice b n d] w fun e w' => e = .returned (.bool true) ∧ Below w.heap.size w w' := by
  by_cases h0 : n = 0
  · subst h0
    refine (same_zero a b c d w).mono ?_
    rintro e w' ⟨rfl, rfl⟩
    exact ⟨rfl, Below.refl _ _⟩
  · rcases h1 with h | ⟨b1, o1, rfl, h1⟩
    · omega
    rcases h2 with h | ⟨b2, o2, rfl, h2⟩
    · omega
    subst hn
    refine (same_big b1 o1 c b2 o2 d l w hl h1 h2).mono ?_
    rintro e w' ⟨rfl, k, rfl⟩
    exact ⟨rfl, below_dN (Below.refl _ _) k⟩
/-- What Share answers, at any list. -/
def shrL (T : Int) (l : List Int) : List Int := if shareE T l = 0 then shareL T l else []
theorem share_any (T : Int) (a : Option Addr) (n c : Nat) (l : List Int) (w : World) (hc : Came w a l) (hn : l.length = n) (hl : n ≤ 17592186044416) :
    Calls Tryd.prog 7 #[.int .i64 T, .slice a n c] w fun e w' => ∃ v, e = .returned (.tuple #[v, .int .i64 (shareE T l)]) ∧ OwnI w' w.heap.size w'.heap.size v (shrL T l) ∧ Below w.heap.size w w' := by
  subst hn
  by_cases hbad : l.length < 1 ∨ 20 < l.length ∨ T < 0 ∨ 1000000000000 < T
  · have hE : shareE T l ≠ 0 := by
      unfold shareE
      by_cases h1 : l.length < 1 ∨ 20 < l.length
      · rw [if_pos h1]; decide
      · rw [if_neg h1, if_pos (by omega)]; decide
    refine (share_bad1 T a l c w (by omega) hbad).mono ?_
    rintro e w' ⟨rfl, rfl⟩
    exact ⟨_, rfl, .inl ⟨rfl, if_neg hE⟩, Below.refl _ _⟩
  · rcases hc with h | ⟨b, off, rfl, hat⟩
    · omega
    refine (share_in T b off l c w (by omega) (by omega) (by omega) (by omega) hat).mono ?_
    rintro e w' (⟨hE, rfl, rfl⟩ | ⟨hE, rfl, ho, hb⟩)
    · exact ⟨_, rfl, .inl ⟨rfl, if_neg hE⟩, Below.refl _ _⟩
    · refine ⟨_, by rw [hE], .inr ⟨w.heap.size, l.length, ?_, Nat.le_refl _, ho.1, ?_⟩, hb⟩
      · rw [shrL, if_pos hE, shareL_length]
      · rw [shrL, if_pos hE]; exact ho
def sptL (T f t : Int) (l : List Int) : List Int := if splE T f t l = 0 then shareL T (lens f t l) else []
theorem split_any' (T f t : Int) (a : Option Addr) (n c : Nat) (l : List Int) (w : World) (hc : Came w a l) (hn : l.length = n) (hl : n ≤ 17592186044416) :
    Calls Tryd.prog 8 #[.int .i64 T, .agg #[.int .i64 f, .int .i64 t], .slice a n c] w fun e w' => ∃ v, e = .returned (.tuple #[v, .int .i64 (splE T f t l)]) ∧ OwnI w' w.heap.size w'.heap.size v (sptL T f t l) ∧ Below w.heap.size w w' := by
  refine (Split_any T f t a n c l w hc hn (by unfold maxLen; omega)).mono ?_
  rintro e w' ⟨v, er, rfl, hv, hb⟩
  rcases hv with ⟨hE, rfl, rfl⟩ | ⟨hE, rfl, g, c', rfl, hg, ho⟩
  · exact ⟨_, rfl, .inl ⟨rfl, if_neg hE⟩, hb⟩
  · refine ⟨_, by rw [hE], .inr ⟨g, c', ?_, hg, ho.1, ?_⟩, hb⟩
    · rw [sptL, if_pos hE, shareL_length, lens_length]
    · rw [sptL, if_pos hE]; exact ho
theorem shrL_len (T : Int) (l : List Int) : (shrL T l).length ≤ 20 := by
  unfold shrL
  split
  · rename_i h
    rw [shareL_length]
    unfold shareE at h
    split at h
    · cases h
    · omega
  · simp
theorem sptL_len (T f t : Int) (l : List Int) : (sptL T f t l).length ≤ 20 := by
  unfold sptL
  split
  · rename_i h
    rw [shareL_length, lens_length]
    unfold splE at h
    split at h
    · cases h
    · split at h
      · cases h
      · omega
  · simp
end Go.Proofs.YtckealcgbjgfhaaDoor
