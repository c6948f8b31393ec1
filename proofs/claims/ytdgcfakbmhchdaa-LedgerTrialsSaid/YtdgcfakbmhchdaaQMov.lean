/-
  Promise Q3: what was moved in and out of an account; the walk of Moved.
-/
import Derived.Test.YtdgcfakbmhchdaaQPost
namespace Go.Proofs.Ytdgcfakbmhchdaa
open Go.RowKit Go.Shelf Go.Maps Go.WideMaps

attribute [local go_sem] Oper.semAt_some

/-- What a posting moves into an account, and out of it. -/
def movI (s : ByteArray) (a : Am) : Int := if (a.name.toList == s.toList) = true then (if 0 < a.mon then a.mon else 0) else 0
def movO (s : ByteArray) (a : Am) : Int := if (a.name.toList == s.toList) = true then (if 0 < a.mon then 0 else -a.mon) else 0
def inN (s : ByteArray) (l : List Am) : Int := l.foldl (fun x a => x + movI s a) 0
def outN (s : ByteArray) (l : List Am) : Int := l.foldl (fun x a => x + movO s a) 0
theorem inN_snoc (s : ByteArray) (l : List Am) (a : Am) : inN s (l ++ [a]) = inN s l + movI s a := by unfold inN; rw [List.foldl_append]; rfl
theorem outN_snoc (s : ByteArray) (l : List Am) (a : Am) : outN s (l ++ [a]) = outN s l + movO s a := by unfold outN; rw [List.foldl_append]; rfl
theorem mov_bd {s : ByteArray} {a : Am} (h : monB a.mon = true) : 0 ≤ movI s a ∧ movI s a ≤ 1000000000000 ∧ 0 ≤ movO s a ∧ movO s a ≤ 1000000000000 := by
  have := of_decide_eq_true h
  unfold movI movO
  (repeat' split) <;> omega
theorem io_bd {s : ByteArray} (l : List Am) : (∀ r ∈ l, monB r.mon = true) → 0 ≤ inN s l ∧ inN s l ≤ 1000000000000 * (l.length : Int) ∧ 0 ≤ outN s l ∧ outN s l ≤ 1000000000000 * (l.length : Int) := by
  refine snocInd (P := fun l => (∀ r ∈ l, monB r.mon = true) → 0 ≤ inN s l ∧ inN s l ≤ 1000000000000 * (l.length : Int) ∧ 0 ≤ outN s l ∧ outN s l ≤ 1000000000000 * (l.length : Int)) (fun _ => ?_) (fun l a ih h => ?_) l
  · simp [inN, outN]
  · have h1 := ih fun r hr => h r (by simp [hr])
    have h2 := mov_bd (s := s) (h a (by simp))
    rw [inN_snoc, outN_snoc, List.length_append, List.length_singleton]
    push_cast
    omega
theorem list_eq_data {a s : ByteArray} : (a.toList == s.toList) = decide (a.data = s.data) := by
  by_cases e : a.data = s.data
  · rw [ba_eq e]; simp
  · rw [decide_eq_false e]
    simp only [beq_eq_false_iff_ne, ne_eq]
    intro q
    rw [ByteArray.toList_eq, ByteArray.toList_eq] at q
    exact e (Array.toList_inj.1 q)
theorem mov_sum (s : ByteArray) (a : Am) : movI s a - movO s a = if a.name.data = s.data then a.mon else 0 := by
  unfold movI movO
  rw [list_eq_data]
  by_cases e : a.name.data = s.data
  · rw [decide_eq_true e, if_pos rfl, if_pos rfl, if_pos e]
    split <;> omega
  · rw [decide_eq_false e, if_neg (by decide), if_neg (by decide), if_neg e]
    omega
theorem io_sum (s : ByteArray) (l : List Am) : inN s l - outN s l = sumN s l := by
  refine snocInd (P := fun l => inN s l - outN s l = sumN s l) rfl (fun l a ih => ?_) l
  rw [inN_snoc, outN_snoc, sumN_append]
  have h1 := mov_sum s a
  have h2 : sumN s [a] = if a.name.data = s.data then a.mon else 0 := by simp [sumN]
  rw [h2]
  omega
set_option maxRecDepth 100000 in
set_option maxHeartbeats 4000000 in
theorem Moved_in (F : Fence) (n : Nat) (h1 : F.fn 20) (h2 : F.fn 34) (h3 : F.fn 48) (h4 : F.fn 33) (hro : F.round = none) (hn : 3 ≤ n) (a : Option Addr) (len cap : Nat) (l : List En) (hlen : l.length = len) (s : ByteArray) (f t : Int) (w : World) (hc : CameE w a l) (h0 : askE l s f t = 0)
    (hask : ∀ w0, CameE w0 a l → CallsIn F (n - 1) Try.prog 33 #[.slice a len cap, .string s, .int .i64 f, .int .i64 t] w0 fun e w' => e = .returned (.int .i64 (askE l s f t)) ∧ Go.RowKit.Below w0.heap.size w0 w') :
    CallsIn F n Try.prog 20 #[.slice a len cap, .string s, .int .i64 f, .int .i64 t] w fun e W' => e = .returned (.tuple #[.int .i64 (inN s (pst l f t)), .int .i64 (outN s (pst l f t)), .int .i64 0]) ∧ Go.RowKit.Below w.heap.size w W' := by
  have hn1 : 1 ≤ n := by omega
  have hj0 : jrE l = 0 := (askE_ok h0).1
  have hl100 : len ≤ 100 := by rw [← hlen]; exact (jrE_ok hj0).1
  have h20 : ∀ k, k < len → (enth l k).ps.length ≤ 20 := fun k hk => (enE_ok ((jrE_ok hj0).2.1 _ (enth_mem (by omega)))).2.2.1
  have HPA := Lib.hid (pst_all hj0 f t)
  have HPB := Lib.hid (pst_bound hj0 f t)
  have HC := Lib.hid hc
  have HLEN := Lib.hid hlen
  have H20 := Lib.hid h20
  have H0 := Lib.hid h0
  have HASK := Lib.hid hask
  have HBX := Lib.hid (kbelow_box w (.cells #[.string s] 9))
  clear hc hlen h20 h0 hj0 hask
  refine callsIn_of_wp_marks Try.func20 rfl h1 ?_ hro
  simp only [Try.ntmps20, List.size_toArray, List.length_cons, List.length_nil, Nat.reduceAdd, Nat.reduceSub, Array.replicate_succ, Array.replicate_zero, List.push_toArray, List.append_toArray, List.nil_append, List.cons_append]
  gi_wp2_with (first
    | (gi_at_call 33; refine (HASK.out _ (HC.out.below HBX.out)).mono ?_; rintro e w1 ⟨rfl, hb1⟩; rw [H0.out])
    | (gi_at_call 34; refine (postings_in F (n - 1) h2 hro _ _ _ _ _ _).mono ?_; rintro e w' ⟨rfl, rfl⟩))
  have HCW := Lib.hid (HC.out)
  have hbA : Boxed (w.alloc (.cells #[.string s] 9)) w.heap.size 9 (.string s) := Boxed.new w _ _
  have hs1 : w.heap.size + 1 ≤ w1.heap.size := by have := hb1.size; simp at this; omega
  have hbA1 : Boxed w1 w.heap.size 9 (.string s) := (hb1.block w.heap.size (by simp)).trans hbA
  have hB1 : Go.RowKit.Below w.heap.size w w1 := HBX.out.trans (hb1.mono (by simp))
  have bI := ((((Boxed.new w1 3 (.int .i64 0)).alloc (.cells #[.int .i64 0] 3)).alloc (.cells #[.slice a len cap] 22)).alloc (.cells #[.int .i64 f] 3)).alloc (.cells #[.int .i64 t] 3)
  have bO := (((Boxed.new (w1.alloc (.cells #[.int .i64 0] 3)) 3 (.int .i64 0)).alloc (.cells #[.slice a len cap] 22)).alloc (.cells #[.int .i64 f] 3)).alloc (.cells #[.int .i64 t] 3)
  have b0 := ((Boxed.new ((w1.alloc (.cells #[.int .i64 0] 3)).alloc (.cells #[.int .i64 0] 3)) 22 (.slice a len cap)).alloc (.cells #[.int .i64 f] 3)).alloc (.cells #[.int .i64 t] 3)
  have b1 := (Boxed.new (((w1.alloc (.cells #[.int .i64 0] 3)).alloc (.cells #[.int .i64 0] 3)).alloc (.cells #[.slice a len cap] 22)) 3 (.int .i64 f)).alloc (.cells #[.int .i64 t] 3)
  have b2 := Boxed.new ((((w1.alloc (.cells #[.int .i64 0] 3)).alloc (.cells #[.int .i64 0] 3)).alloc (.cells #[.slice a len cap] 22)).alloc (.cells #[.int .i64 f] 3)) 3 (.int .i64 t)
  have bA := ((((hbA1.alloc (.cells #[.int .i64 0] 3)).alloc (.cells #[.int .i64 0] 3)).alloc (.cells #[.slice a len cap] 22)).alloc (.cells #[.int .i64 f] 3)).alloc (.cells #[.int .i64 t] 3)
  simp only [World.size_alloc] at bI bO b0 b1 b2
  have hB0 : Go.RowKit.Below w.heap.size w (((((w1.alloc (.cells #[.int .i64 0] 3)).alloc (.cells #[.int .i64 0] 3)).alloc (.cells #[.slice a len cap] 22)).alloc (.cells #[.int .i64 f] 3)).alloc (.cells #[.int .i64 t] 3)) := ((((hB1.alloc (by omega) _).alloc (by simp; omega) _).alloc (by simp; omega) _).alloc (by simp; omega) _).alloc (by simp; omega) _
  have hsz : (((((w1.alloc (.cells #[.int .i64 0] 3)).alloc (.cells #[.int .i64 0] 3)).alloc (.cells #[.slice a len cap] 22)).alloc (.cells #[.int .i64 f] 3)).alloc (.cells #[.int .i64 t] 3)).heap.size = w1.heap.size + 5 := by simp
  obtain ⟨W0, hW0⟩ : ∃ W0, ((((w1.alloc (.cells #[.int .i64 0] 3)).alloc (.cells #[.int .i64 0] 3)).alloc (.cells #[.slice a len cap] 22)).alloc (.cells #[.int .i64 f] 3)).alloc (.cells #[.int .i64 t] 3) = W0 := ⟨_, rfl⟩
  rw [hW0] at bI bO b0 b1 b2 bA hB0 hsz ⊢
  clear hW0 hbA hbA1 hb1 hB1
  obtain ⟨g, hg⟩ : ∃ g, w1.heap.size = g := ⟨_, rfl⟩
  rw [hg] at bI bO b0 b1 b2 hsz hs1 ⊢
  have hgw : g + 5 ≤ W0.heap.size := by omega
  clear hg hsz
  refine wpIn_rangeFunc_ownH hro hn1 (gf := 48) (lb := #[.pointer (some ⟨g + 1 + 1, 0, none⟩), .pointer (some ⟨g + 1 + 1 + 1, 0, none⟩), .pointer (some ⟨g + 1 + 1 + 1 + 1, 0, none⟩)]) rfl h3 (enters_of Try.func48 (by kernel_rfl) rfl)
    (postings_stops F (n - 1) h3 hro (by omega) (g + 1 + 1) (fun k => k = g ∨ k = g + 1) w W0 (fun k e => by omega) (by omega) (by omega) hB0 a len cap l HLEN.out hl100 f t HCW.out H20.out b0.cell b1.cell b2.cell) (fun h k => h.trans k) (keepB_b (Nat.le_refl _)) (Below.refl _ _) (fun _ => rfl)
    (fun pre W => (Boxed W g 3 (.int .i64 (inN s (pre.map (anth (pst l f t))))) ∧ Boxed W (g + 1) 3 (.int .i64 (outN s (pre.map (anth (pst l f t)))))) ∧ (Boxed W w.heap.size 9 (.string s) ∧ (Go.RowKit.Below w.heap.size w W ∧ W0.heap.size ≤ W.heap.size)))
    (fun _ _ _ => False)
    (OwnFrom.and (OwnFrom.and (Own.from (boxed_own _ _ (fun (pre : List Nat) => .int .i64 (inN s (pre.map (anth (pst l f t)))))) _) (Own.from (boxed_own _ _ (fun (pre : List Nat) => .int .i64 (outN s (pre.map (anth (pst l f t)))))) _)) (OwnFrom.and (Own.from (boxed_own _ _ (fun (_ : List Nat) => .string s)) _) (OwnFrom.and (ownFrom_below (Nat.le_refl _) (by omega)) (fun s A B row hs hg hr => Nat.le_trans hs hg.size))))
    (fun _ _ _ _ _ hs _ _ => hs)
    ⟨⟨bI, bO⟩, bA, hB0, Nat.le_refl _⟩
    (fun x a' W => ∃ Bx, W0.heap.size ≤ Bx ∧ PBox W Bx (anth (pst l f t) x) ∧ a' = { tmps := #[.slice a len cap, .string s, .int .i64 f, .int .i64 t, undef, .pointer (some ⟨w.heap.size, 0, none⟩), undef, undef, .int .i64 0, .int .i64 0, .int .i64 0, .int .i64 0, .pointer (some ⟨g, 0, none⟩), .pointer (some ⟨g + 1, 0, none⟩), .pointer (some ⟨Bx, 0, none⟩), .slice a len cap, .string s, .int .i64 f, .int .i64 t, .int .i64 0, .int .i64 0, .bool false, undef, .slice a len cap, .int .i64 f, .int .i64 t, .func (.func 48) #[] #[.pointer (some ⟨g + 1 + 1, 0, none⟩), .pointer (some ⟨g + 1 + 1 + 1, 0, none⟩), .pointer (some ⟨g + 1 + 1 + 1 + 1, 0, none⟩)], .agg #[.string (anth (pst l f t) x).name, .int .i64 (anth (pst l f t) x).mon], undef, undef, undef, undef, undef, undef, undef, undef, undef, undef, undef, undef, undef, undef, undef, undef, undef, undef, undef], defers := [] })
    (fun x a' _ X Y row hs hg hr => by obtain ⟨Bx, q1, q2, q3⟩ := hs; exact ⟨Bx, q1, PBox.own Bx _ () X Y row q2 hg (fun r e => (hr r e).2), q3⟩)
    ?assign ?body ?done ?stop
  case assign =>
    rintro lq pre x W K ⟨⟨c1, c2⟩, c3, hB1, hsW⟩ hK
    unfold pv
    gi_wp2
    exact hK _ _ ((KeepsOthers.alloc _ _).from _) ((KeepB.refl _ _ W).alloc hsW _) ⟨⟨c1.alloc _, c2.alloc _⟩, c3.alloc _, hB1.alloc hB1.size _, Nat.le_trans hsW (by simp)⟩ ⟨W.heap.size, hsW, World.alloc_heap_new W _, rfl⟩
  case body =>
    rintro lq pre x a' W hlq ⟨r, hr⟩ ⟨⟨c1, c2⟩, c3, hB1, hsW⟩ ⟨Bx, hBx, hbx, rfl⟩ hlt
    obtain ⟨y0, y1⟩ := hbx.cells
    obtain ⟨hfit, hmo⟩ := HPA.out x
    have hmo' := of_decide_eq_true hmo
    have k1 := c1.cell
    have k2 := c2.cell
    have k3 := c3.cell
    have f1 := c1.frozen
    have f2 := c2.frozen
    have HBD := Lib.hid (io_bd (s := s) (pre.map (anth (pst l f t))) (fun r hr => by obtain ⟨i, _, rfl⟩ := List.mem_map.1 hr; exact (HPA.out i).2))
    rw [List.length_map] at HBD
    have HI1 : Hid (inN s ((pre ++ [x]).map (anth (pst l f t))) = inN s (pre.map (anth (pst l f t))) + movI s (anth (pst l f t) x)) := by unfold Hid; rw [List.map_append, List.map_cons, List.map_nil, inN_snoc]
    have HO1 : Hid (outN s ((pre ++ [x]).map (anth (pst l f t))) = outN s (pre.map (anth (pst l f t))) + movO s (anth (pst l f t) x)) := by unfold Hid; rw [List.map_append, List.map_cons, List.map_nil, outN_snoc]
    have HMI : Hid (movI s (anth (pst l f t) x) = if ((anth (pst l f t) x).name.toList == s.toList) = true then (if 0 < (anth (pst l f t) x).mon then (anth (pst l f t) x).mon else 0) else 0) := rfl
    have HMO : Hid (movO s (anth (pst l f t) x) = if ((anth (pst l f t) x).name.toList == s.toList) = true then (if 0 < (anth (pst l f t) x).mon then 0 else -(anth (pst l f t) x).mon) else 0) := rfl
    have hN := HPB.out
    have HC1 := Lib.hid c1
    have HC2 := Lib.hid c2
    have HC3 := Lib.hid c3
    have hsmall := HBD.out
    obtain ⟨vi, hvi⟩ : ∃ vi, inN s (pre.map (anth (pst l f t))) = vi := ⟨_, rfl⟩
    obtain ⟨vo, hvo⟩ : ∃ vo, outN s (pre.map (anth (pst l f t))) = vo := ⟨_, rfl⟩
    obtain ⟨nm, hnm⟩ : ∃ nm, (anth (pst l f t) x).name = nm := ⟨_, rfl⟩
    obtain ⟨mo, hmon⟩ : ∃ mo, (anth (pst l f t) x).mon = mo := ⟨_, rfl⟩
    rw [hvi] at k1 HI1 HC1 hsmall
    rw [hvo] at k2 HO1 HC2 hsmall
    rw [hnm] at y0 HMI HMO ⊢
    rw [hmon] at y1 HMI HMO hmo' ⊢
    clear hvi hvo hnm hmon c1 c2 c3 hbx hmo hfit HBD
    have hi2 : vi ≤ 2000000000000000 := by omega
    have ho2 : vo ≤ 2000000000000000 := by omega
    have hi0 := hsmall.1
    have ho0 := hsmall.2.2.1
    clear hsmall
    cases hq : (nm.toList == s.toList)
    · have hq' : (nm.toList != s.toList) = true := by rw [bne, hq]; rfl
      rw [hq, if_neg (by decide)] at HMI HMO
      gi_wp2
      exact ⟨KeepsFrom.of_grownBy (World.grownBy.refl _ none) (fun j e => by cases e), KeepB.refl _ _ W, ⟨by rw [HI1.out, HMI.out, Int.add_zero]; exact HC1.out, by rw [HO1.out, HMO.out, Int.add_zero]; exact HC2.out⟩, HC3.out, hB1, hsW⟩
    · have hq' : (nm.toList != s.toList) = false := by rw [bne, hq]; rfl
      rw [hq, if_pos rfl] at HMI HMO
      by_cases hp : 0 < mo
      · rw [if_pos hp] at HMI HMO
        have hw1 : IntKind.i64.wrap (vi + mo) = vi + mo := IntWalk.i64_in _ (by omega)
        gi_wp2
        refine ⟨KeepsFrom.of_grownBy (grownBy_setCell' W g _) (fun j e => by cases e; omega), (KeepB.refl _ _ W).grown (grownBy_setCell' W g _) hsW (fun r e => by cases e; exact .inl (.inl rfl)), ⟨?_, ?_⟩, HC3.out.other (by omega) _, hB1.grown (grownBy_setCell' W g _) hB1.size (fun k e => by cases e; omega), Nat.le_trans hsW (by simp [World.setCell])⟩
        · rw [HI1.out, HMI.out]; exact HC1.out.set _
        · rw [HO1.out, HMO.out, Int.add_zero]; exact HC2.out.other (by omega) _
      · have hp' : decide (0 < mo) = false := decide_eq_false hp
        rw [if_neg hp] at HMI HMO
        have hw1 : IntKind.i64.wrap (vo - mo) = vo - mo := IntWalk.i64_in _ (by omega)
        gi_wp2
        refine ⟨KeepsFrom.of_grownBy (grownBy_setCell' W (g + 1) _) (fun j e => by cases e; omega), (KeepB.refl _ _ W).grown (grownBy_setCell' W (g + 1) _) hsW (fun r e => by cases e; exact .inl (.inr rfl)), ⟨?_, ?_⟩, HC3.out.other (by omega) _, hB1.grown (grownBy_setCell' W (g + 1) _) hB1.size (fun k e => by cases e; omega), Nat.le_trans hsW (by simp [World.setCell])⟩
        · rw [HI1.out, HMI.out, Int.add_zero]; exact HC1.out.other (by omega) _
        · rw [HO1.out, HMO.out, show vo + -mo = vo - mo from by omega]; exact HC2.out.set _
  case done =>
    rintro D ys W hD rfl ⟨⟨c1, c2⟩, c3, hB1, hsW⟩ hK
    have k1 := c1.cell
    have k2 := c2.cell
    rw [map_range_anth] at k1 k2
    gi_wp2
    gi_region
    all_goals gi_wp2
    all_goals refine ⟨by simp, .inl ⟨_, _, rfl, run_takeDeferred (show W.drew.heap[D]? = _ from hK), ?_⟩⟩
    all_goals exact ⟨.tuple #[.int .i64 (inN s (pst l f t)), .int .i64 (outN s (pst l f t)), .int .i64 0], by simp [results, Try.results20, go_sem], rfl, (hB1.drew).trans (belowK_b (w := w) (Nat.le_refl _) W.drew D _ _ (by omega) hK rfl rfl)⟩
  case stop =>
    rintro D c pre W _ _ h _
    exact h.elim
/-- What Moved answers. -/
def movE (l : List En) (s : ByteArray) (f t : Int) (x : Int) : Int := if askE l s f t = 0 then x else 0
set_option maxRecDepth 100000 in
set_option maxHeartbeats 2000000 in
theorem Moved_any (a : Option Addr) (n cap : Nat) (l : List En) (s : ByteArray) (f t : Int) (w : World) (hc : CameE w a l) (hn : l.length = n) :
    Calls Try.prog 20 #[.slice a n cap, .string s, .int .i64 f, .int .i64 t] w fun e w' => e = .returned (.tuple #[.int .i64 (movE l s f t (inN s (pst l f t))), .int .i64 (movE l s f t (outN s (pst l f t))), .int .i64 (askE l s f t)]) ∧ Go.RowKit.Below w.heap.size w w' := by
  by_cases h0 : askE l s f t = 0
  · unfold movE
    rw [h0, if_pos rfl, if_pos rfl]
    exact callsIn_wide.1 (Moved_in Fence.wide 3 trivial trivial trivial trivial rfl (by omega) a n cap l hn s f t w hc h0 (fun w0 hc0 => callsIn_wide.2 (checkAsked_any a n cap l s f t w0 hc0 hn)))
  · have HC := Lib.hid hc
    have HN := Lib.hid hn
    have HV : Hid (∀ x, movE l s f t x = 0) := fun x => if_neg h0
    have h0' : (askE l s f t != 0) = true := by simp [h0]
    have HBX := Lib.hid (kbelow_box w (.cells #[.string s] 9))
    rw [HV.out, HV.out]
    clear hc hn
    obtain ⟨cc, hcc⟩ : ∃ c, askE l s f t = c := ⟨_, rfl⟩
    have HCC := Lib.hid hcc
    rw [hcc] at h0'
    clear h0 hcc
    go_enter Try.func20, Try.ntmps20
    go_wp2_with (first | (go_at_call 33; refine (checkAsked_any a n cap l s f t _ (HC.out.below HBX.out) HN.out).mono ?_; rintro e w1 ⟨rfl, hb1⟩; rw [HCC.out]; have HB1 := Lib.hid (HBX.out.trans (hb1.mono (by simp))); clear hb1))
    refine bodyPost_ret (v := .tuple #[.int .i64 0, .int .i64 0, .int .i64 cc]) (by simp [results, Try.results20, go_sem] <;> rfl) rfl ⟨by rw [HCC.out], HB1.out⟩
end Go.Proofs.Ytdgcfakbmhchdaa
