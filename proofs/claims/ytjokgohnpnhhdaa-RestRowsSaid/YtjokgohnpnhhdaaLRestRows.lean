/-
  The walk of the law RestRows: it answers true at every list of rows that lies in memory, and every row.
-/
import Derived.Test.YtjokgohnpnhhdaaHBegun
import Derived.Test.YtjokgohnpnhhdaaHApp
namespace Go.Proofs.Ytjokgohnpnhhdaa
open Go.RowKit

theorem rnth_olds (l : List Rw) (r : Rw) {k : Nat} (hk : k < l.length) : rnth (l ++ [r]) k = rnth l k := by
  unfold rnth
  rw [List.getD_eq_getElem?_getD, List.getD_eq_getElem?_getD, List.getElem?_append_left hk]
/-- A row that is spoilt. -/
def set4 (w : World) (g o : Nat) : World := (((w.setCell ⟨g, o, none⟩ (.int .i64 (-1))).setCell ⟨g, o + 1, none⟩ (.int .i64 0)).setCell ⟨g, o + 2, none⟩ (.int .i64 0)).setCell ⟨g, o + 3, none⟩ (.bool false)
theorem set4_cell (w : World) (g o : Nat) (b q : Nat) (h : b ≠ g ∨ q < o ∨ o + 4 ≤ q) : (set4 w g o).cell? ⟨b, q, none⟩ = w.cell? ⟨b, q, none⟩ := by
  have hn : ∀ i, i < 4 → (⟨b, q, none⟩ : Addr) ≠ ⟨g, o + i, none⟩ := fun i hi e => by
    cases e
    rcases h with h | h | h
    · exact h rfl
    · omega
    · omega
  have h0 := hn 0 (by omega)
  rw [Nat.add_zero] at h0
  unfold set4
  rw [World.cell?_setCell_other (h := (hn 3 (by omega)).symm), World.cell?_setCell_other (h := (hn 2 (by omega)).symm), World.cell?_setCell_other (h := (hn 1 (by omega)).symm), World.cell?_setCell_other (h := h0.symm)]
theorem set4_frozen (w : World) (g o : Nat) (p : Addr) : (set4 w g o).frozen? p = w.frozen? p := by
  unfold set4
  rw [World.frozen?_setCell, World.frozen?_setCell, World.frozen?_setCell, World.frozen?_setCell]
theorem set4_size (w : World) (g o : Nat) : (set4 w g o).heap.size = w.heap.size := by
  unfold set4
  simp
theorem set4_below {B : Nat} {a w : World} (h : Below B a w) (g o : Nat) (hg : B ≤ g) : Below B a (set4 w g o) :=
  (((h.setCell (p := ⟨g, o, none⟩) hg _).setCell (p := ⟨g, o + 1, none⟩) hg _).setCell (p := ⟨g, o + 2, none⟩) hg _).setCell (p := ⟨g, o + 3, none⟩) hg _
/-- From the place k on the rows l lie at the block g, from its beginning; all of them may be written. -/
def TInv (w : World) (a : Option Addr) (B k n : Nat) (l : List Rw) : Prop := n ≤ k ∨ ∃ g, a = some ⟨g, 0, none⟩ ∧ B ≤ g ∧ g < w.heap.size ∧ (∀ j, k ≤ j → j < n → RowIs w g (j * 4) (rnth l j)) ∧ ∀ j, j < n * 4 → w.frozen? ⟨g, j, none⟩ = false
theorem TInv.below {w w' : World} {a : Option Addr} {B k n : Nat} {l : List Rw} (h : TInv w a B k n l) (hb : Below w.heap.size w w') : TInv w' a B k n l := by
  rcases h with h | ⟨g, h1, h2, h3, h4, h5⟩
  · exact .inl h
  · exact .inr ⟨g, h1, h2, Nat.lt_of_lt_of_le h3 hb.size, fun j hj hj' => (h4 j hj hj').below hb h3, fun j hj => (hb.frozen (p := ⟨g, j, none⟩) h3).trans (h5 j hj)⟩
theorem TInv.set {w : World} {B k n g : Nat} {l : List Rw} (h : TInv w (some ⟨g, 0, none⟩) B k n l) : TInv (set4 w g (k * 4)) (some ⟨g, 0, none⟩) B (k + 1) n l := by
  rcases h with h | ⟨g', h1, h2, h3, h4, h5⟩
  · exact .inl (by omega)
  · cases h1
    refine .inr ⟨g, rfl, h2, by rw [set4_size]; exact h3, fun j hj hj' => ?_, fun j hj => by rw [set4_frozen]; exact h5 j hj⟩
    obtain ⟨a0, a1, a2, a3⟩ := h4 j (by omega) hj'
    refine ⟨?_, ?_, ?_, ?_⟩
    · rw [set4_cell _ _ _ _ _ (.inr (.inr (by omega)))]; exact a0
    · rw [set4_cell _ _ _ _ _ (.inr (.inr (by omega)))]; exact a1
    · rw [set4_cell _ _ _ _ _ (.inr (.inr (by omega)))]; exact a2
    · rw [set4_cell _ _ _ _ _ (.inr (.inr (by omega)))]; exact a3
theorem TInv.far {w : World} {a : Option Addr} {B k n g o : Nat} {l : List Rw} (h : TInv w a B k n l) (hg : g < B) : TInv (set4 w g o) a B k n l := by
  rcases h with h | ⟨g', h1, h2, h3, h4, h5⟩
  · exact .inl h
  · have hne : g' ≠ g := by omega
    refine .inr ⟨g', h1, h2, by rw [set4_size]; exact h3, fun j hj hj' => ?_, fun j hj => by rw [set4_frozen]; exact h5 j hj⟩
    obtain ⟨a0, a1, a2, a3⟩ := h4 j hj hj'
    refine ⟨?_, ?_, ?_, ?_⟩
    · rw [set4_cell _ _ _ _ _ (.inl hne)]; exact a0
    · rw [set4_cell _ _ _ _ _ (.inl hne)]; exact a1
    · rw [set4_cell _ _ _ _ _ (.inl hne)]; exact a2
    · rw [set4_cell _ _ _ _ _ (.inl hne)]; exact a3
theorem GrowR.tinv {w : World} {B : Nat} {v : Value} {l : List Rw} (h : GrowR w B v l) : ∃ a c, v = .slice a l.length c ∧ CameR w a l ∧ TInv w a B 0 l.length l := by
  have hh := h
  rcases h.form with ⟨h1, h2⟩ | ⟨g, c, h1, h2, h3⟩
  · subst h2
    exact ⟨none, 0, h1, .inl rfl, .inl (Nat.le_refl _)⟩
  · refine ⟨some ⟨g, 0, none⟩, c, h1, .inr ⟨g, 0, rfl, h3⟩, .inr ⟨g, rfl, h2, h3.1, fun j _ hj => ?_, fun j _ => ?_⟩⟩
    · obtain ⟨a0, a1, a2, a3⟩ := h3.2 j hj
      simp only [Nat.zero_add] at a0 a1 a2 a3
      exact ⟨a0, a1, a2, a3⟩
    · subst h1
      exact World.ownsRow.frozenAt hh j
theorem RowIs.set {w : World} {b o g q : Nat} {r : Rw} (h : RowIs w b o r) (hne : b ≠ g) : RowIs (set4 w g q) b o r := by
  obtain ⟨a0, a1, a2, a3⟩ := h
  exact ⟨(set4_cell _ _ _ _ _ (.inl hne)).trans a0, (set4_cell _ _ _ _ _ (.inl hne)).trans a1, (set4_cell _ _ _ _ _ (.inl hne)).trans a2, (set4_cell _ _ _ _ _ (.inl hne)).trans a3⟩
/-- 'append([]api.Row{}, h...)' in the text's order. -/
theorem wpList_app_rows {ops : Array Oper} {rest : List Oper} {o : Oper} {a : Act} {Q : Exit → Act → World → Prop} (w : World) (hgd : o.guard = none) (s x : Operand)
    (ho : o.op = .call { callee := .builtin .append, args := #[s, x], argTypes := #[22, 22] })
    (B : Nat) (v : Value) (l : List Rw) (hs : a.eval s = v) (hown : GrowR w B v l) (src : Option Addr) (m c : Nat) (news : List Rw) (hx : a.eval x = .slice src m c) (hsrc : CameR w src news) (hm : news.length = m)
    (hb : (l.length + m) * 32 ≤ 140737488355328) (hB : B ≤ w.heap.size)
    (h : ∀ v' w', GrowR w' B v' (l ++ news) → Below B w w' → wpList Try.prog ops Q rest (a.put o.dst v') w') :
    wpList Try.prog ops Q (o :: rest) a w := by
  obtain ⟨v', w', hr, h2, h3, h4⟩ := run_app_rows w o.type B v l hown src m c news hsrc hm hb hB
  refine wpList_plain hgd fun _ hK => ?_
  unfold Oper.wp execOp
  simp only [ho, resolve, invoke, builtin, Sem.run_bind, Sem.run_pure, Result.andThen_ok, List.map_toArray, List.map_cons, List.map_nil, hs, hx, hr]
  exact hK _ _ (h v' w' h2 ((Below.refl B w).grown h3 hB fun k hk => (GrowR.lt hown k hk).1))

set_option maxRecDepth 100000 in
set_option maxHeartbeats 2000000 in
theorem walk_restRows (w : World) (a : Option Addr) (n cap : Nat) (l : List Rw) (hc : CameR w a l) (hn : l.length = n) (hm : n ≤ maxLen) (_ : ∀ r ∈ l, RowWf r) (hsz : n * 32 ≤ 140737488351232) (f s v : Int) (g : Bool) (_ : (Lit.int .i64 f).wf = true) (_ : (Lit.int .i64 s).wf = true) (_ : (Lit.int .i64 v).wf = true) :
    Calls Try.prog 6 #[.slice a n cap, .agg #[.int .i64 f, .int .i64 s, .int .i64 v, .bool g]] w fun e w' => e = .returned (.bool true) ∧ Below w.heap.size w w' := by
  have HC := Lib.hid hc
  have HN := Lib.hid hn
  have HM := Lib.hid hm
  have HS := Lib.hid hsz
  have hnb : (n : Int) ≤ 4398046511104 := by omega
  clear hc hn hm hsz
  have hb0 := (Below.refl w.heap.size w).alloc (Nat.le_refl _) (.cells #[.int .i64 f, .int .i64 s, .int .i64 v, .bool g] 24)
  have HX0 := Lib.hid (RBox.made w f s v g 24)
  have HB0 := Lib.hid hb0
  clear hb0
  go_enter Try.func6, Try.ntmps6
  go_wp2_with fail
  refine (begun_any _).mono ?_
  rintro e w1 ⟨rfl, hb1⟩
  have HB1 := Lib.hid (HB0.out.trans (hb1.mono HB0.out.size))
  have HR1 := Lib.hid (HX0.out.1.below hb1 HX0.out.lt)
  have hlt1 : w.heap.size < w1.heap.size := Nat.lt_of_lt_of_le (by simp) hb1.size
  clear hb1 HX0 HB0
  obtain ⟨x0, x1, x2, x3⟩ := HR1.out
  simp only [Nat.zero_add] at x1 x2 x3
  go_wp2_with (at_builtin; refine wpList_app_rows _ rfl _ _ rfl w1.heap.size _ [] rfl (GrowR.made w1 (Nat.le_refl _)) a n cap l rfl ?hs1 ?hn1 ?hb1 ?hB1 ?_; rotate_right; intro vt w2 hg2 hb2; refine Hid.out ?_)
  case hs1 => exact ((HC.out.below HB1.out)).alloc _
  case hn1 => exact HN.out
  case hb1 => have := HS.out; simp; omega
  case hB1 => simp
  have HB12 : Hid (Below w1.heap.size w1 w2) := ((Below.refl w1.heap.size w1).alloc (Nat.le_refl _) _).trans hb2
  have HB2 := Lib.hid (HB1.out.trans (HB12.out.mono HB1.out.size))
  have HR2 := Lib.hid (HR1.out.below HB12.out hlt1)
  have hlt2 : w.heap.size < w2.heap.size := Nat.lt_of_lt_of_le hlt1 HB12.out.size
  obtain ⟨at1, c1, rfl, hca, hti⟩ := hg2.tinv
  rw [List.nil_append] at hca hti ⊢
  rw [HN.out] at hti ⊢
  have HCT := Lib.hid hca
  have HGT : Hid (∀ k, at1 = some ⟨k, 0, none⟩ → k < w2.heap.size) := fun k e => (hg2.lt k (by rw [e]; rfl)).2
  have HT2 := Lib.hid hti
  clear hg2 hb2 hca hti x0 x1 x2 x3 HR1
  obtain ⟨x0, x1, x2, x3⟩ := HR2.out
  simp only [Nat.zero_add] at x1 x2 x3
  refine Lib.hid ?_
  go_wp2_with fail
  refine (Put_own at1 n c1 l f s v g w2 HCT.out HN.out HM.out).mono ?_
  rintro e w3 ⟨x, er, rfl, hp, hb3, hnew⟩
  have HB3 := Lib.hid (HB2.out.trans (hb3.mono HB2.out.size))
  have HR3 := Lib.hid (HR2.out.below hb3 hlt2)
  have HT3 := Lib.hid (HT2.out.below hb3)
  have hlt3 : w.heap.size < w3.heap.size := Nat.lt_of_lt_of_le hlt2 hb3.size
  clear hb3 HT2 x0 x1 x2 x3 HR2 HCT
  by_cases her : er = 0
  · subst her
    obtain ⟨hz1, hz2, G, cx, rfl, hrx⟩ : histE l = 0 ∧ histE (l ++ [⟨f, s, v, g⟩]) = 0 ∧ ∃ g' c', x = .slice (some ⟨g', 0, none⟩) (l.length + 1) c' ∧ RAt w3 g' 0 (l ++ [⟨f, s, v, g⟩]) := by
      rcases hp with ⟨h, _, h'⟩ | ⟨_, h, _, h'⟩ | ⟨h1, h2, _, g', c', h3, h4⟩
      · exact absurd h'.symm h
      · exact absurd h'.symm h
      · exact ⟨h1, h2, g', c', h3, h4⟩
    obtain ⟨hG, hroom⟩ := hnew G cx _ rfl
    have HXT : Hid (TInv w3 (some ⟨G, 0, none⟩) w2.heap.size 0 (n + 1) (l ++ [⟨f, s, v, g⟩])) := by
      refine .inr ⟨G, rfl, hG, hrx.1, fun j _ hj => ?_, fun j hj => ?_⟩
      · obtain ⟨a0, a1, a2, a3⟩ := hrx.2 j (by have := HN.out; simp [this]; omega)
        simp only [Nat.zero_add] at a0 a1 a2 a3
        exact ⟨a0, a1, a2, a3⟩
      · have := (hroom j (by have := HN.out; rw [this]; exact hj)).2
        rwa [Nat.zero_add] at this
    have HZ1 := Lib.hid hz1
    have HZ2 := Lib.hid hz2
    rw [show l.length + 1 = n + 1 from by rw [HN.out]]
    clear hp hnew hrx hroom hG hz1 hz2
    go_wp2_with fail
    go_loopw [8] (fun i wr => ∃ k : Nat, k ≤ n ∧ i = .int .i64 k ∧ TInv wr at1 w1.heap.size k n l ∧ RowIs wr w.heap.size 0 ⟨f, s, v, g⟩ ∧ Below w.heap.size w wr ∧ (TInv wr (some ⟨G, 0, none⟩) w2.heap.size 0 (n + 1) (l ++ [⟨f, s, v, g⟩]))) (fun i _ => n - (intOf i).toNat)
    case atStart => exact ⟨0, Nat.zero_le _, rfl, HT3.out, HR3.out, HB3.out, HXT.out⟩
    case round =>
      obtain ⟨k, hk, rfl, ht, hr, hb, hex⟩ := hrel
      have HT := Lib.hid ht
      have HR := Lib.hid hr
      have HB := Lib.hid hb
      have HEX := Lib.hid hex
      clear ht hr hb hex
      by_cases hlt : k < n
      · have hlt' : (k : Int) < (n : Int) := by omega
        obtain ⟨gt, hgt, hg1, hg2, hrow, hfz⟩ : ∃ g, at1 = some ⟨g, 0, none⟩ ∧ w1.heap.size ≤ g ∧ g < wr.heap.size ∧ (∀ j, k ≤ j → j < n → RowIs wr g (j * 4) (rnth l j)) ∧ ∀ j, j < n * 4 → wr.frozen? ⟨g, j, none⟩ = false := by
          rcases HT.out with h | h
          · omega
          · exact h
        subst hgt
        obtain ⟨p0, p1, p2, p3⟩ := hrow k (Nat.le_refl _) hlt
        have z0 := hfz (k * 4) (by omega)
        have z1 := hfz (k * 4 + 1) (by omega)
        have z2 := hfz (k * 4 + 2) (by omega)
        have z3 := hfz (k * 4 + 3) (by omega)
        have HCK := Lib.hid (HC.out.below HB.out)
        obtain ⟨bh, oh, hah, hcell⟩ := HC.out.open HN.out (by omega)
        obtain ⟨q0, q1, q2, q3⟩ := hcell wr HB.out k hlt
        subst hah
        clear hrow hfz hcell
        go_wp2_with fail
        go_quiet (fail)
        go_wp2_with fail
        have hgw := HGT.out gt rfl
        go_roundw
        case rel => exact ⟨k + 1, by omega, by go_num, TInv.set (w := wr.drewN nq) HT.out, RowIs.set (w := wr.drewN nq) HR.out (by omega), set4_below (below_dN HB.out _) _ _ (by omega), TInv.far (w := wr.drewN nq) HEX.out hgw⟩
        case measure => simp [intOf]; omega
      · obtain rfl : k = n := by omega
        clear HT
        go_wp2_with fail
        go_loopw [9] (fun i wr => ∃ k' : Nat, k' ≤ k ∧ i = .int .i64 k' ∧ TInv wr (some ⟨G, 0, none⟩) w2.heap.size k' (k + 1) (l ++ [⟨f, s, v, g⟩]) ∧ RowIs wr w.heap.size 0 ⟨f, s, v, g⟩ ∧ Below w.heap.size w wr) (fun i _ => k - (intOf i).toNat)
        case atStart => exact ⟨0, Nat.zero_le _, rfl, HEX.out, HR.out, HB.out⟩
        case round =>
          clear HEX HR HB hlt
          obtain ⟨m, hk', rfl, ht, hr, hb⟩ := hrel
          have HT := Lib.hid ht
          have HR := Lib.hid hr
          have HB := Lib.hid hb
          clear ht hr hb
          by_cases hlt : m < k
          · have hlt' : (m : Int) < (k : Int) := by omega
            obtain ⟨gx, hgx, hg1, hg2, hrow, hfz⟩ : ∃ g', some (⟨G, 0, none⟩ : Addr) = some ⟨g', 0, none⟩ ∧ w2.heap.size ≤ g' ∧ g' < wr.heap.size ∧ (∀ j, m ≤ j → j < k + 1 → RowIs wr g' (j * 4) (rnth (l ++ [⟨f, s, v, g⟩]) j)) ∧ ∀ j, j < (k + 1) * 4 → wr.frozen? ⟨g', j, none⟩ = false := by
              rcases HT.out with h | h
              · omega
              · exact h
            cases hgx
            obtain ⟨p0, p1, p2, p3⟩ := hrow m (Nat.le_refl _) (by omega)
            rw [rnth_olds l _ (by rw [HN.out]; exact hlt)] at p0 p1 p2 p3
            have z0 := hfz (m * 4) (by omega)
            have z1 := hfz (m * 4 + 1) (by omega)
            have z2 := hfz (m * 4 + 2) (by omega)
            have z3 := hfz (m * 4 + 3) (by omega)
            obtain ⟨bh, oh, hah, hcell⟩ := HC.out.open HN.out (by omega)
            obtain ⟨q0, q1, q2, q3⟩ := hcell wr HB.out m hlt
            subst hah
            clear hrow hfz hcell
            go_wp2_with fail
            go_quiet (fail)
            go_wp2_with fail
            go_roundw
            case rel => exact ⟨m + 1, by omega, by go_num, TInv.set (w := wr.drewN nq) HT.out, RowIs.set (w := wr.drewN nq) HR.out (by omega), set4_below (below_dN HB.out _) _ _ (by omega)⟩
            case measure => simp [intOf]; omega
          · obtain rfl : m = k := by omega
            clear HT
            obtain ⟨x0, x1, x2, x3⟩ := HR.out
            simp only [Nat.zero_add] at x1 x2 x3
            go_wp2_with fail
            refine (Put_any a m cap l f s v g wr (HC.out.below HB.out) HN.out HM.out).mono ?_
            rintro e w5 ⟨y, er, rfl, hp, hb5⟩
            have HB5 := Lib.hid (HB.out.trans (hb5.mono HB.out.size))
            obtain ⟨rfl, G5, c5, rfl, hr5⟩ : er = 0 ∧ ∃ g' c', y = .slice (some ⟨g', 0, none⟩) (l.length + 1) c' ∧ RAt w5 g' 0 (l ++ [⟨f, s, v, g⟩]) := by
              rcases hp with ⟨h, _⟩ | ⟨_, h, _⟩ | ⟨_, _, h, g', c', h1, h2⟩
              · exact absurd HZ1.out h
              · exact absurd HZ2.out h
              · exact ⟨h, g', c', h1, h2⟩
            rw [HN.out]
            have HR5 := Lib.hid hr5
            clear hb5 hp hr5 x0 x1 x2 x3
            go_wp2_with fail
            go_loopw [11] (fun i wq => ∃ k' : Nat, k' ≤ m ∧ i = .int .i64 k' ∧ RAt wq G5 0 (l ++ [⟨f, s, v, g⟩]) ∧ Below w.heap.size w wq) (fun i _ => m - (intOf i).toNat)
            case atStart => exact ⟨0, Nat.zero_le _, rfl, HR5.out, HB5.out⟩
            case round =>
              obtain ⟨j, hj, rfl, hr6, hb6⟩ := hrel
              have HR6 := Lib.hid hr6
              have HB6 := Lib.hid hb6
              clear hr6 hb6
              by_cases hjt : j < m
              · have hjt' : (j : Int) < (m : Int) := by omega
                obtain ⟨p0, p1, p2, p3⟩ := HR6.out.2 j (by have := HN.out; simp [this]; omega)
                rw [rnth_olds l _ (by rw [HN.out]; exact hjt)] at p0 p1 p2 p3
                simp only [Nat.zero_add] at p0 p1 p2 p3
                obtain ⟨bh, oh, hah, hcell⟩ := HC.out.open HN.out (by omega)
                obtain ⟨q0, q1, q2, q3⟩ := hcell _ HB6.out j hjt
                subst hah
                clear hcell
                go_wp2_with fail
                go_quiet (fail)
                go_wp2_with fail
                go_roundw
                case rel => exact ⟨j + 1, by omega, by go_num, HR6.out, below_dN HB6.out _⟩
                case measure => simp [intOf]; omega
              · obtain rfl : j = m := by omega
                go_wp2_with fail
                go_ret
                exact ⟨rfl, HB6.out⟩
  · obtain rfl : x = .slice none 0 0 := by
      rcases hp with ⟨_, h, _⟩ | ⟨_, _, h, _⟩ | ⟨_, _, h, _⟩
      · exact h
      · exact h
      · exact absurd h her
    have herB : decide (er = 0) = false := decide_eq_false her
    clear hp hnew
    go_wp2_with fail
    go_loopw [8] (fun i wr => ∃ k : Nat, k ≤ n ∧ i = .int .i64 k ∧ TInv wr at1 w1.heap.size k n l ∧ RowIs wr w.heap.size 0 ⟨f, s, v, g⟩ ∧ Below w.heap.size w wr ∧ (True)) (fun i _ => n - (intOf i).toNat)
    case atStart => exact ⟨0, Nat.zero_le _, rfl, HT3.out, HR3.out, HB3.out, trivial⟩
    case round =>
      obtain ⟨k, hk, rfl, ht, hr, hb, hex⟩ := hrel
      have HT := Lib.hid ht
      have HR := Lib.hid hr
      have HB := Lib.hid hb
      have HEX := Lib.hid hex
      clear ht hr hb hex
      by_cases hlt : k < n
      · have hlt' : (k : Int) < (n : Int) := by omega
        obtain ⟨gt, hgt, hg1, hg2, hrow, hfz⟩ : ∃ g, at1 = some ⟨g, 0, none⟩ ∧ w1.heap.size ≤ g ∧ g < wr.heap.size ∧ (∀ j, k ≤ j → j < n → RowIs wr g (j * 4) (rnth l j)) ∧ ∀ j, j < n * 4 → wr.frozen? ⟨g, j, none⟩ = false := by
          rcases HT.out with h | h
          · omega
          · exact h
        subst hgt
        obtain ⟨p0, p1, p2, p3⟩ := hrow k (Nat.le_refl _) hlt
        have z0 := hfz (k * 4) (by omega)
        have z1 := hfz (k * 4 + 1) (by omega)
        have z2 := hfz (k * 4 + 2) (by omega)
        have z3 := hfz (k * 4 + 3) (by omega)
        have HCK := Lib.hid (HC.out.below HB.out)
        obtain ⟨bh, oh, hah, hcell⟩ := HC.out.open HN.out (by omega)
        obtain ⟨q0, q1, q2, q3⟩ := hcell wr HB.out k hlt
        subst hah
        clear hrow hfz hcell
        go_wp2_with fail
        go_quiet (fail)
        go_wp2_with fail
        have hgw := HGT.out gt rfl
        go_roundw
        case rel => exact ⟨k + 1, by omega, by go_num, TInv.set (w := wr.drewN nq) HT.out, RowIs.set (w := wr.drewN nq) HR.out (by omega), set4_below (below_dN HB.out _) _ _ (by omega), trivial⟩
        case measure => simp [intOf]; omega
      · obtain rfl : k = n := by omega
        clear HT
        go_wp2_with fail
        go_ret
        exact ⟨rfl, HB.out⟩
end Go.Proofs.Ytjokgohnpnhhdaa
