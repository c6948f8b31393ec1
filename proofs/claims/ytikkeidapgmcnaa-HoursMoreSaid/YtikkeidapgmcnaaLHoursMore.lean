/-
  The walk of the law HoursMore: it answers true at every input.
-/
import Derived.Test.YtikkeidapgmcnaaLHoursWhole
import Derived.OpenShut
import Derived.ArgAppend
import Derived.Maps.AppendAt
import Derived.Deep.RegionHeld3
namespace Go.Proofs.Ytikkeidapgmcnaa
open Go.RowKit Go.Maps

/-- Which of n things a raw number speaks of. -/
def chooseI (c n : Int) : Int := (if c < 0 then -(c + 1) else c) % n
theorem choose_any (c n : Int) (w : World) (hc : -9223372036854775808 ≤ c) (hc' : c ≤ 9223372036854775807) (hn : 1 ≤ n) (hn' : n ≤ 1000000000) :
    Calls Try.prog 22 #[.int .i64 c, .int .i64 n] w fun e w' => e = .returned (.int .i64 (chooseI c n)) ∧ w' = w := by
  have hn0 : (n == 0) = false := by simp; omega
  by_cases h : c < 0
  · have H : Hid (chooseI c n = (-(c + 1)) % n) := by unfold Hid chooseI; rw [if_pos h]
    have HE : Hid (-((c + 1).tmod n) = (-(c + 1)) % n) := by unfold Hid; rw [← Int.neg_tmod]; exact Int.tmod_eq_emod_of_nonneg (by omega)
    go_enter Try.func22, Try.ntmps22
    go_wp2
    go_ret
    exact ⟨uret_int (by rw [H.out]; first | done | rw [HE.out]), rfl⟩
  · have H : Hid (chooseI c n = c % n) := by unfold Hid chooseI; rw [if_neg h]
    have HE : Hid (c.tmod n = c % n) := Int.tmod_eq_emod_of_nonneg (by omega)
    go_enter Try.func22, Try.ntmps22
    go_wp2
    go_ret
    exact ⟨uret_int (by rw [H.out]; first | done | rw [HE.out]), rfl⟩
theorem choose_bd (c n : Int) (hn : 1 ≤ n) : 0 ≤ chooseI c n ∧ chooseI c n < n :=
  ⟨Int.emod_nonneg _ (by omega), Int.emod_lt_of_pos _ (by omega)⟩
/-- All overtime of the first k days. -/
def sumOv (l : List Int) (D W : Int) : Nat → Int
  | 0 => 0
  | k + 1 => sumOv l D W k + (nth l k - usu l D W k)
def sumL (l : List Int) : Nat → Int
  | 0 => 0
  | k + 1 => sumL l k + nth l k
theorem sumOv_eq (l : List Int) (D W : Int) : ∀ k, sumOv l D W k = sumL l k - (W - leftW l D W k)
  | 0 => by simp [sumOv, sumL, leftW]
  | k + 1 => by
    rw [sumOv, sumOv_eq l D W k, sumL, leftW]
    unfold usu
    omega
/-- What the days come to, each no more than Daily. -/
def sumD (l : List Int) (D : Int) : Nat → Int
  | 0 => 0
  | k + 1 => sumD l D k + min (nth l k) D
theorem sumD_nn {l : List Int} {D : Int} (hD : 0 ≤ D) (h : ∀ j, j < l.length → 0 ≤ nth l j) : ∀ k, k ≤ l.length → 0 ≤ sumD l D k
  | 0, _ => by simp [sumD]
  | k + 1, hk => by
    have := sumD_nn hD h k (by omega)
    have := h k (by omega)
    rw [sumD]
    omega
theorem leftW_eq {l : List Int} {D W : Int} (hD : 0 ≤ D) (hW : 0 ≤ W) (h : ∀ j, j < l.length → 0 ≤ nth l j) : ∀ k, k ≤ l.length → leftW l D W k = max 0 (W - sumD l D k)
  | 0, _ => by rw [leftW, sumD]; omega
  | k + 1, hk => by
    have ih := leftW_eq hD hW h k (by omega)
    have := h k (by omega)
    have := sumD_nn hD h k (by omega)
    rw [leftW, sumD]
    omega
theorem sum_set {l : List Int} {i : Nat} (hi : i < l.length) (v D : Int) : ∀ k, (k ≤ i → sumL (l.set i v) k = sumL l k ∧ sumD (l.set i v) D k = sumD l D k) ∧ (i < k → sumL (l.set i v) k = sumL l k + (v - nth l i) ∧ sumD (l.set i v) D k = sumD l D k + (min v D - min (nth l i) D))
  | 0 => ⟨fun _ => ⟨rfl, rfl⟩, fun h => by omega⟩
  | k + 1 => by
    obtain ⟨h1, h2⟩ := sum_set hi v D k
    rw [sumL, sumL, sumD, sumD, nth_set hi]
    constructor
    · intro hk
      obtain ⟨e1, e2⟩ := h1 (by omega)
      rw [if_neg (by omega), e1, e2]
      exact ⟨rfl, rfl⟩
    · intro hk
      by_cases e : k = i
      · subst e
        obtain ⟨e1, e2⟩ := h1 (Nat.le_refl _)
        rw [if_pos rfl, e1, e2]
        omega
      · obtain ⟨e1, e2⟩ := h2 (by omega)
        rw [if_neg e, e1, e2]
        omega
/-- Who worked more on a day has no less overtime. -/
theorem more_pure {l : List Int} {D W : Int} (hE : splitE l D W = 0) {i : Nat} (hi : i < l.length) {z : Int} (hz : 0 ≤ z) (hz' : nth l i + z ≤ 1440) :
    splitE (l.set i (nth l i + z)) D W = 0 ∧ nth l i - usu l D W i ≤ nth l i + z - usu (l.set i (nth l i + z)) D W i ∧
    sumOv l D W l.length ≤ sumOv (l.set i (nth l i + z)) D W l.length ∧ sumOv (l.set i (nth l i + z)) D W l.length - sumOv l D W l.length ≤ z := by
  obtain ⟨z1, z2, z3, z4, z5, z6⟩ := splitE_zero hE
  have hl0 : ∀ j, j < l.length → 0 ≤ nth l j := fun j hj => (timeB_iff.1 (timesB_nth z2 hj)).1
  have hlen : (l.set i (nth l i + z)).length = l.length := List.length_set
  have hi0 := hl0 i hi
  have ht : timesB (l.set i (nth l i + z)) = true := timesB_of fun j hj => by
    rw [hlen] at hj
    rw [nth_set hi]
    by_cases e : j = i
    · rw [if_pos e]; exact timeB_iff.2 (by omega)
    · rw [if_neg e]; exact timesB_nth z2 hj
  have hl1 : ∀ j, j < (l.set i (nth l i + z)).length → 0 ≤ nth (l.set i (nth l i + z)) j := fun j hj => (timeB_iff.1 (timesB_nth ht hj)).1
  obtain ⟨s1, _⟩ := sum_set hi (nth l i + z) D i
  obtain ⟨_, s2⟩ := sum_set hi (nth l i + z) D l.length
  obtain ⟨_, a2⟩ := s1 (Nat.le_refl _)
  obtain ⟨b1, b2⟩ := s2 hi
  have w1 := leftW_eq z3 z5 hl0 i (by omega)
  have w2 := leftW_eq z3 z5 hl1 i (by omega)
  have w3 := leftW_eq z3 z5 hl0 l.length (Nat.le_refl _)
  have w4 := leftW_eq z3 z5 hl1 l.length (by omega)
  refine ⟨splitE_ok (by omega) (by rw [ht]; simp; omega), ?_, ?_, ?_⟩
  · unfold usu
    rw [nth_set hi, if_pos rfl, w1, w2, a2]
    omega
  · rw [sumOv_eq, sumOv_eq, b1, w3, w4, b2]
    omega
  · rw [sumOv_eq, sumOv_eq, b1, w3, w4, b2]
    omega
/-! ### A row of ints of the call's own, onto which a list is appended -/
def GrowI (w : World) (B : Nat) (v : Value) (l : List Int) : Prop := w.ownsRow B 3 1 v l.length (l.map (Value.int .i64))
theorem GrowI.lt {w : World} {B : Nat} {v : Value} {l : List Int} (h : GrowI w B v l) : ∀ k, v.ownBlock = some k → B ≤ k ∧ k < w.heap.size := World.ownsRow.lt h
theorem GrowI.empty (w : World) {B : Nat} (hB : B ≤ w.heap.size) (T : TypeId) (hT : T = 3) : GrowI (w.alloc (.cells #[] T)) B (.slice (some ⟨w.heap.size, 0, none⟩) 0 0) [] := by
  subst hT
  exact World.ownsRow_made (w := w) _ 0 hB (by unfold maxLen; omega) (by simp)
theorem GrowI.own {w : World} {B : Nat} {v : Value} {l : List Int} (h : GrowI w B v l) (h0 : 0 < l.length) : ∃ g c, v = .slice (some ⟨g, 0, none⟩) l.length c ∧ B ≤ g ∧ Own w g l := by
  have hh := h
  rcases h.2 with ⟨h1, h2⟩ | ⟨g, c, cur, h1, h2, rest⟩
  · omega
  · subst h1
    refine ⟨g, c, rfl, h2, (GrowI.lt hh g rfl).2, fun j hj => ?_⟩
    have hc := World.ownsRow.cells hh (g := g) rfl j (.int .i64 (nth l j)) (by simp [nth, List.getD_eq_getElem?_getD, hj])
    rw [Addr.add_lit, Nat.zero_add] at hc
    refine ⟨hc, ?_⟩
    exact World.ownsRow.frozenAt hh j
theorem wpList_app_ints {ops : Array Oper} {rest : List Oper} {o : Oper} {a : Act} {Q : Exit → Act → World → Prop} (w : World) (hgd : o.guard = none) (s x : Operand)
    (ho : o.op = .call { callee := .builtin .append, args := #[s, x], argTypes := #[22, 22] })
    (B : Nat) (v : Value) (l : List Int) (hs : a.eval s = v) (hown : GrowI w B v l) (b off m c : Nat) (news : List Int) (hx : a.eval x = .slice (some ⟨b, off, none⟩) m c) (hsrc : At w b off news) (hm : news.length = m)
    (hb : l.length + m ≤ 1000) (hB : B ≤ w.heap.size)
    (h : ∀ v' w', GrowI w' B v' (l ++ news) → Below B w w' → wpList Try.prog ops Q rest (a.put o.dst v') w') :
    wpList Try.prog ops Q (o :: rest) a w := by
  obtain ⟨i0, hi, hz0, hz1, hz2⟩ := info_parts info_int
  have hnews : ∀ j u, (news.map (Value.int .i64))[j]? = some u → w.cell? ((⟨b, off, none⟩ : Addr).add j) = some u := by
    intro j u hu
    rw [Addr.add_lit]
    have hj : j < news.length := by
      by_cases h' : j < (news.map (Value.int .i64)).length
      · simpa using h'
      · rw [List.getElem?_eq_none (by omega)] at hu; cases hu
    rw [hsrc.2 j hj, ← hu]
    simp [nth, List.getD_eq_getElem?_getD, hj]
  obtain ⟨v', w', hr, h2', h3, _, h5⟩ := run_append_own_at (P := Try.prog) w B 22 o.type 3 i0 _ 1 8 Try.underlying22 hi hz0 hz1 hz2 rfl (by decide) v l.length (l.map (Value.int .i64)) hown ⟨b, off, none⟩ m c (news.map (Value.int .i64)) (by simp [hm]) hnews (by intro u hu; simp at hu; obtain ⟨n, _, rfl⟩ := hu; rfl) (by unfold maxLen; omega) (by omega) hB
  have h2'' : GrowI w' B v' (l ++ news) := by
    unfold GrowI
    rw [List.length_append, List.map_append, hm]
    exact h2'
  refine wpList_plain hgd fun _ hK => ?_
  unfold Oper.wp execOp
  simp only [ho, resolve, invoke, builtin, Sem.run_bind, Sem.run_pure, Result.andThen_ok, List.map_toArray, List.map_cons, List.map_nil, hs, hx, hr]
  exact hK _ _ (h v' w' h2'' ((Below.refl B w).grown h3 hB fun k hk => (GrowI.lt hown k hk).1))
theorem ov_bd {l : List Int} {D W : Int} (hE : splitE l D W = 0) {k : Nat} (hk : k < l.length) : 0 ≤ nth l k - usu l D W k ∧ nth l k - usu l D W k ≤ 1440 := by
  obtain ⟨_, z2, z3, z4, z5, z6⟩ := splitE_zero hE
  have hb := leftW_bd (l := l) (d := D) (W := W) z3 z5 (fun j hj => (timeB_iff.1 (timesB_nth z2 hj)).1) k (by omega)
  have hx := timeB_iff.1 (timesB_nth z2 hk)
  unfold usu
  omega
theorem sumOv_bd {l : List Int} {D W : Int} (hE : splitE l D W = 0) : ∀ k : Nat, k ≤ l.length → 0 ≤ sumOv l D W k ∧ sumOv l D W k ≤ 1440 * k
  | 0, _ => by simp [sumOv]
  | k + 1, hk => by
    have ih := sumOv_bd hE k (by omega)
    have := ov_bd hE (k := k) (by omega)
    rw [sumOv]
    omega
theorem ov_cell {w : World} {g : Nat} {l : List Int} {D W : Int} (h : At w g 0 (ovL l D W l.length)) {n : Nat} (hn : l.length = n) (k : Nat) (hk : k < n) : w.cell? ⟨g, k, none⟩ = some (.int .i64 (nth l k - usu l D W k)) := by
  have := h.2 k (by unfold ovL; rw [fillTo_length]; omega)
  rwa [ovL_nth (by omega), Nat.zero_add] at this
set_option maxRecDepth 100000 in
set_option maxHeartbeats 2000000 in
theorem walk_hoursMore (a : Option Addr) (n cap : Nat) (l : List Int) {w : World} (hc : Came w a l) (hn : l.length = n) (hm : n ≤ maxLen) (_ : ∀ x ∈ l, (Lit.int .i64 x).wf = true) (D W : Int) (_ : (Lit.int .i64 D).wf = true) (_ : (Lit.int .i64 W).wf = true) (day : Int) (hdw : (Lit.int .i64 day).wf = true) (more : Int) (hmw : (Lit.int .i64 more).wf = true) :
    Calls Try.prog 8 #[.slice a n cap, .agg #[.int .i64 D, .int .i64 W], .int .i64 day, .int .i64 more] w fun e w' => e = .returned (.bool true) ∧ Below w.heap.size w w' := by
  have hm' : n ≤ 9223372036854775807 := by unfold maxLen at hm; omega
  obtain ⟨d1, d2⟩ := bounds_i64 hdw
  obtain ⟨m1, m2⟩ := bounds_i64 hmw
  have HM := Lib.hid hm
  have HN := Lib.hid hn
  have HB0 := Lib.hid (ubelow_box w (.cells #[.int .i64 D, .int .i64 W] 39))
  have HC := Lib.hid (hc.below HB0.out)
  clear hm hc hn hdw hmw
  go_enter Try.func8, Try.ntmps8
  go_wp2_with fail
  refine (begun_any _).mono ?_
  rintro e w1 ⟨rfl, hb⟩
  have HB1 := Lib.hid (HB0.out.trans (hb.mono HB0.out.size))
  have HC1 := Lib.hid (HC.out.below hb)
  have HX1 : Hid (OBox w1 w.heap.size D W) := OBox.below ⟨by simp, by simp⟩ hb (by simp)
  have hlt1 : w.heap.size < w1.heap.size := by have := hb.size; simp at this; omega
  clear hb
  obtain ⟨o0, o1⟩ := HX1.out
  go_wp2_with fail
  refine (Split_any a n cap l D W _ HC1.out HN.out HM.out).mono ?_
  rintro e w2 ⟨u, v, er, rfl, ⟨rfl, hp⟩, hb⟩
  have HB2 := Lib.hid (HB1.out.trans (hb.mono HB1.out.size))
  have HC2 := Lib.hid (HC1.out.below hb)
  have HX2 := Lib.hid (HX1.out.below hb hlt1)
  have hlt2 : w.heap.size < w2.heap.size := by have := hb.size; omega
  clear hb o0 o1
  rcases hp with ⟨hte, rfl, rfl⟩ | ⟨hte, g, h, rfl, rfl, h1, h2⟩
  · have hne : (splitE l D W != 0) = true := by simp [hte]
    have hne' : decide (splitE l D W = 0) = false := decide_eq_false hte
    go_wp2_with fail
    go_ret
    exact ⟨rfl, HB2.out⟩
  · have HE := Lib.hid hte
    have hn7 : n ≤ 7 := by have := (splitE_zero hte).1; rw [HN.out] at this; exact this
    have HOV := Lib.hid h2.at
    rw [hte, HN.out]
    clear h1 h2 hte
    by_cases h0 : n = 0
    · subst h0
      go_wp2_with fail
      go_ret
      exact ⟨rfl, HB2.out⟩
    · have h0B : ((n : Int) == 0) = false := by simp; omega
      obtain ⟨b, off, rfl, hat⟩ : ∃ b off, a = some ⟨b, off, none⟩ ∧ At w2 b off l := by
        rcases HC2.out with h | h
        · have := HN.out; omega
        · exact h
      have HAT := Lib.hid hat
      clear hat
      go_wp2_with fail
      refine (choose_any day n _ d1 d2 (by omega) (by omega)).mono ?_
      rintro e w' ⟨rfl, h'⟩
      subst w'
      obtain ⟨i, hi, hin⟩ : ∃ i : Nat, chooseI day n = i ∧ i < n := ⟨(chooseI day n).toNat, by have := choose_bd day n (by omega); omega, by have := choose_bd day n (by omega); omega⟩
      rw [hi]
      clear hi
      go_wp2_with (at_builtin; refine wpList_app_ints _ rfl _ _ rfl w2.heap.size _ [] rfl ?hgw _ _ n cap l rfl ?hsrc ?hml ?hl ?hB ?_; rotate_right; intro v9 w9 hg9 hb9; refine Hid.out ?_)
      case hgw => exact GrowI.empty w2 (Nat.le_refl _) _ rfl
      case hsrc => exact HAT.out.below (ubelow_box _ _) HAT.out.1
      case hml => exact HN.out
      case hl => simp; omega
      case hB => simp
      obtain ⟨gl, cl, rfl, hBg, hown⟩ := hg9.own (by rw [List.nil_append, HN.out]; omega)
      rw [List.nil_append] at hown ⊢
      rw [HN.out]
      have HOW := Lib.hid hown
      have HB9 := Lib.hid (Below.trans (ubelow_box w2 _) hb9)
      clear hg9 hb9 hown
      refine Lib.hid ?_
      have HA9 := Lib.hid (HAT.out.below HB9.out HAT.out.1)
      have x0 := HA9.out.2 i (by rw [HN.out]; exact hin)
      have c0 := HOW.out.cell (j := i) (by rw [HN.out]; exact hin)
      have f0 := HOW.out.free (j := i) (by rw [HN.out]; exact hin)
      have hti := (splitE_zero HE.out).2.1
      have hx := timeB_iff.1 (timesB_nth hti (j := i) (by rw [HN.out]; exact hin))
      have hzb := choose_bd more (1441 - nth l i) (by omega)
      have HZ := Lib.hid (fun w => choose_any more (1441 - nth l i) w m1 m2 (by omega) (by omega))
      have HMP := Lib.hid (fun z hz hz' => more_pure HE.out (i := i) (by rw [HN.out]; exact hin) (z := z) hz hz')
      have HSET := Lib.hid (fun v => HOW.out.set (j := i) (by rw [HN.out]; exact hin) v)
      have hin' : (i : Int) < (n : Int) := by omega
      have HXI : Hid (nth l i = nth l i) := rfl
      generalize chooseI more (1441 - nth l i) = z at *
      have hw1 : IntKind.i64.wrap (1441 - nth l i) = 1441 - nth l i := IntWalk.i64_in _ (by omega)
      have hw2 : IntKind.i64.wrap (nth l i + z) = nth l i + z := IntWalk.i64_in _ (by omega)
      go_wp2_with fail
      go_region_with (go_at_call 22; refine (HZ.out _).mono ?_; rintro e w' ⟨rfl, h'⟩; subst w')
      · have HOW9 : Hid (Own (w9.setCell ⟨gl, i, none⟩ (.int .i64 (nth l i + z))).drew gl (l.set i (nth l i + z))) := (HSET.out (nth l i + z)).drewN 1
        have HB99 : Hid (Below w2.heap.size w2 (w9.setCell ⟨gl, i, none⟩ (.int .i64 (nth l i + z))).drew) := (HB9.out.setCell hBg _).drew
        generalize (w9.setCell ⟨gl, i, none⟩ (.int .i64 (nth l i + z))).drew = W9 at *
        have HX9 := Lib.hid (HX2.out.below HB99.out hlt2)
        obtain ⟨o0, o1⟩ := HX9.out
        obtain ⟨pE, pD, pS, pT⟩ := HMP.out z (by omega) (by omega)
        have HLN : Hid ((l.set i (nth l i + z)).length = n) := by unfold Hid; rw [List.length_set, HN.out]
        have HVI : Hid (nth (l.set i (nth l i + z)) i = nth l i + z) := by unfold Hid; rw [nth_set (by rw [HN.out]; exact hin), if_pos rfl]
        have HE3 := Lib.hid pE
        rw [HN.out] at pS pT
        clear HSET HMP pE x0 c0 f0 hw2
        generalize hl3 : l.set i (nth l i + z) = l3 at *
        clear hl3
        go_wp2_with fail
        refine (Split_any (some ⟨gl, 0, none⟩) n cl l3 D W _ (.inr ⟨gl, 0, rfl, HOW9.out.at⟩) HLN.out HM.out).mono ?_
        rintro e w3 ⟨u3, v3, er3, rfl, ⟨rfl, hp3⟩, hb⟩
        have HB3 := Lib.hid (HB99.out.trans (hb.mono HB99.out.size))
        have HAL := Lib.hid (HOW9.out.at.below hb HOW9.out.1)
        clear hb o0 o1
        rcases hp3 with ⟨hbad, _⟩ | ⟨_, g3, h3, rfl, rfl, _, q2⟩
        · exact absurd HE3.out hbad
        have HOV3 := Lib.hid q2.at
        have HOV2 := Lib.hid (HOV.out.below HB3.out HOV.out.1)
        have HAT3 := Lib.hid (HAT.out.below HB3.out HAT.out.1)
        rw [HE3.out, HLN.out]
        clear q2
        go_wp2_with fail
        go_loop [15, 16, 17] (fun xv yv iv => ∃ k : Nat, k ≤ n ∧ iv = .int .i64 k ∧ xv = .int .i64 (sumOv l D W k) ∧ yv = .int .i64 (sumOv l3 D W k)) (fun _ _ iv => n - (intOf iv).toNat)
        case atStart => exact ⟨0, Nat.zero_le _, rfl, rfl, rfl⟩
        case round =>
          obtain ⟨k, hk, rfl, rfl, rfl⟩ := hrel
          have b1 := sumOv_bd HE.out k (by rw [HN.out]; exact hk)
          have b2 := sumOv_bd HE3.out k (by rw [HLN.out]; exact hk)
          by_cases hlt : k < n
          · have hlt' : (k : Int) < (n : Int) := by omega
            have s0 := ov_cell HOV2.out HN.out k hlt
            have s1 := ov_cell HOV3.out HLN.out k hlt
            have e0 := ov_bd HE.out (k := k) (by rw [HN.out]; exact hlt)
            have e1 := ov_bd HE3.out (k := k) (by rw [HLN.out]; exact hlt)
            have HS0 : Hid (sumOv l D W (k + 1) = sumOv l D W k + (nth l k - usu l D W k)) := rfl
            have HS1 : Hid (sumOv l3 D W (k + 1) = sumOv l3 D W k + (nth l3 k - usu l3 D W k)) := rfl
            clear pD
            generalize nth l k - usu l D W k = V0 at *
            generalize nth l3 k - usu l3 D W k = V1 at *
            generalize sumOv l D W k = S0 at *
            generalize sumOv l3 D W k = S1 at *
            go_wp2_with fail
            go_round
            case rel => exact ⟨k + 1, by omega, by go_num, uval (by rw [HS0.out]), uval (by rw [HS1.out])⟩
            case measure => simp [intOf]; omega
          · obtain rfl : k = n := by omega
            have s0 := ov_cell HOV2.out HN.out i hin
            have s1 := ov_cell HOV3.out HLN.out i hin
            have e0 := ov_bd HE.out (k := i) (by rw [HN.out]; exact hin)
            have e1 := ov_bd HE3.out (k := i) (by rw [HLN.out]; exact hin)
            have x0 := HAT3.out.2 i (by rw [HN.out]; exact hin)
            have c0 := HAL.out.2 i (by rw [HLN.out]; exact hin)
            rw [HVI.out] at c0 s1 e1
            rw [Nat.zero_add] at c0
            generalize nth l i - usu l D W i = V0 at *
            generalize nth l i + z - usu l3 D W i = V1 at *
            generalize sumOv l D W k = S0 at *
            generalize sumOv l3 D W k = S1 at *
            generalize nth l i = X at *
            have t1 : decide (V0 ≤ V1) = true := decide_eq_true pD
            have t2 : decide (S0 ≤ S1) = true := decide_eq_true pS
            have hw3 : IntKind.i64.wrap (S1 - S0) = S1 - S0 := IntWalk.i64_in _ (by omega)
            have hw4 : IntKind.i64.wrap (X + z - X) = z := by rw [show X + z - X = z by omega]; exact IntWalk.i64_in _ (by omega)
            have t3 : decide (S1 - S0 ≤ z) = true := decide_eq_true pT
            go_wp2_with fail
            go_quiet (fail)
            go_wp2_with fail
            go_ret
            exact ⟨uret_bool (by simp [*]), ubelow_dN (HB2.out.trans (HB3.out.mono HB2.out.size)) _⟩
      · have HOW9 : Hid (Own (w9.setCell ⟨gl, i, none⟩ (.int .i64 (nth l i + z))).drew gl (l.set i (nth l i + z))) := (HSET.out (nth l i + z)).drewN 1
        have HB99 : Hid (Below w2.heap.size w2 (w9.setCell ⟨gl, i, none⟩ (.int .i64 (nth l i + z))).drew) := (HB9.out.setCell hBg _).drew
        generalize (w9.setCell ⟨gl, i, none⟩ (.int .i64 (nth l i + z))).drew = W9 at *
        have HX9 := Lib.hid (HX2.out.below HB99.out hlt2)
        obtain ⟨o0, o1⟩ := HX9.out
        obtain ⟨pE, pD, pS, pT⟩ := HMP.out z (by omega) (by omega)
        have HLN : Hid ((l.set i (nth l i + z)).length = n) := by unfold Hid; rw [List.length_set, HN.out]
        have HVI : Hid (nth (l.set i (nth l i + z)) i = nth l i + z) := by unfold Hid; rw [nth_set (by rw [HN.out]; exact hin), if_pos rfl]
        have HE3 := Lib.hid pE
        rw [HN.out] at pS pT
        clear HSET HMP pE x0 c0 f0 hw2
        generalize hl3 : l.set i (nth l i + z) = l3 at *
        clear hl3
        go_wp2_with fail
        refine (Split_any (some ⟨gl, 0, none⟩) n cl l3 D W _ (.inr ⟨gl, 0, rfl, HOW9.out.at⟩) HLN.out HM.out).mono ?_
        rintro e w3 ⟨u3, v3, er3, rfl, ⟨rfl, hp3⟩, hb⟩
        have HB3 := Lib.hid (HB99.out.trans (hb.mono HB99.out.size))
        have HAL := Lib.hid (HOW9.out.at.below hb HOW9.out.1)
        clear hb o0 o1
        rcases hp3 with ⟨hbad, _⟩ | ⟨_, g3, h3, rfl, rfl, _, q2⟩
        · exact absurd HE3.out hbad
        have HOV3 := Lib.hid q2.at
        have HOV2 := Lib.hid (HOV.out.below HB3.out HOV.out.1)
        have HAT3 := Lib.hid (HAT.out.below HB3.out HAT.out.1)
        rw [HE3.out, HLN.out]
        clear q2
        go_wp2_with fail
        go_loop [15, 16, 17] (fun xv yv iv => ∃ k : Nat, k ≤ n ∧ iv = .int .i64 k ∧ xv = .int .i64 (sumOv l D W k) ∧ yv = .int .i64 (sumOv l3 D W k)) (fun _ _ iv => n - (intOf iv).toNat)
        case atStart => exact ⟨0, Nat.zero_le _, rfl, rfl, rfl⟩
        case round =>
          obtain ⟨k, hk, rfl, rfl, rfl⟩ := hrel
          have b1 := sumOv_bd HE.out k (by rw [HN.out]; exact hk)
          have b2 := sumOv_bd HE3.out k (by rw [HLN.out]; exact hk)
          by_cases hlt : k < n
          · have hlt' : (k : Int) < (n : Int) := by omega
            have s0 := ov_cell HOV2.out HN.out k hlt
            have s1 := ov_cell HOV3.out HLN.out k hlt
            have e0 := ov_bd HE.out (k := k) (by rw [HN.out]; exact hlt)
            have e1 := ov_bd HE3.out (k := k) (by rw [HLN.out]; exact hlt)
            have HS0 : Hid (sumOv l D W (k + 1) = sumOv l D W k + (nth l k - usu l D W k)) := rfl
            have HS1 : Hid (sumOv l3 D W (k + 1) = sumOv l3 D W k + (nth l3 k - usu l3 D W k)) := rfl
            clear pD
            generalize nth l k - usu l D W k = V0 at *
            generalize nth l3 k - usu l3 D W k = V1 at *
            generalize sumOv l D W k = S0 at *
            generalize sumOv l3 D W k = S1 at *
            go_wp2_with fail
            go_round
            case rel => exact ⟨k + 1, by omega, by go_num, uval (by rw [HS0.out]), uval (by rw [HS1.out])⟩
            case measure => simp [intOf]; omega
          · obtain rfl : k = n := by omega
            have s0 := ov_cell HOV2.out HN.out i hin
            have s1 := ov_cell HOV3.out HLN.out i hin
            have e0 := ov_bd HE.out (k := i) (by rw [HN.out]; exact hin)
            have e1 := ov_bd HE3.out (k := i) (by rw [HLN.out]; exact hin)
            have x0 := HAT3.out.2 i (by rw [HN.out]; exact hin)
            have c0 := HAL.out.2 i (by rw [HLN.out]; exact hin)
            rw [HVI.out] at c0 s1 e1
            rw [Nat.zero_add] at c0
            generalize nth l i - usu l D W i = V0 at *
            generalize nth l i + z - usu l3 D W i = V1 at *
            generalize sumOv l D W k = S0 at *
            generalize sumOv l3 D W k = S1 at *
            generalize nth l i = X at *
            have t1 : decide (V0 ≤ V1) = true := decide_eq_true pD
            have t2 : decide (S0 ≤ S1) = true := decide_eq_true pS
            have hw3 : IntKind.i64.wrap (S1 - S0) = S1 - S0 := IntWalk.i64_in _ (by omega)
            have hw4 : IntKind.i64.wrap (X + z - X) = z := by rw [show X + z - X = z by omega]; exact IntWalk.i64_in _ (by omega)
            have t3 : decide (S1 - S0 ≤ z) = true := decide_eq_true pT
            go_wp2_with fail
            go_quiet (fail)
            go_wp2_with fail
            go_ret
            exact ⟨uret_bool (by simp [*]), ubelow_dN (HB2.out.trans (HB3.out.mono HB2.out.size)) _⟩
      · have HOW9 : Hid (Own (w9.setCell ⟨gl, i, none⟩ (.int .i64 (nth l i + z))).drew gl (l.set i (nth l i + z))) := (HSET.out (nth l i + z)).drewN 1
        have HB99 : Hid (Below w2.heap.size w2 (w9.setCell ⟨gl, i, none⟩ (.int .i64 (nth l i + z))).drew) := (HB9.out.setCell hBg _).drew
        generalize (w9.setCell ⟨gl, i, none⟩ (.int .i64 (nth l i + z))).drew = W9 at *
        have HX9 := Lib.hid (HX2.out.below HB99.out hlt2)
        obtain ⟨o0, o1⟩ := HX9.out
        obtain ⟨pE, pD, pS, pT⟩ := HMP.out z (by omega) (by omega)
        have HLN : Hid ((l.set i (nth l i + z)).length = n) := by unfold Hid; rw [List.length_set, HN.out]
        have HVI : Hid (nth (l.set i (nth l i + z)) i = nth l i + z) := by unfold Hid; rw [nth_set (by rw [HN.out]; exact hin), if_pos rfl]
        have HE3 := Lib.hid pE
        rw [HN.out] at pS pT
        clear HSET HMP pE x0 c0 f0 hw2
        generalize hl3 : l.set i (nth l i + z) = l3 at *
        clear hl3
        go_wp2_with fail
        refine (Split_any (some ⟨gl, 0, none⟩) n cl l3 D W _ (.inr ⟨gl, 0, rfl, HOW9.out.at⟩) HLN.out HM.out).mono ?_
        rintro e w3 ⟨u3, v3, er3, rfl, ⟨rfl, hp3⟩, hb⟩
        have HB3 := Lib.hid (HB99.out.trans (hb.mono HB99.out.size))
        have HAL := Lib.hid (HOW9.out.at.below hb HOW9.out.1)
        clear hb o0 o1
        rcases hp3 with ⟨hbad, _⟩ | ⟨_, g3, h3, rfl, rfl, _, q2⟩
        · exact absurd HE3.out hbad
        have HOV3 := Lib.hid q2.at
        have HOV2 := Lib.hid (HOV.out.below HB3.out HOV.out.1)
        have HAT3 := Lib.hid (HAT.out.below HB3.out HAT.out.1)
        rw [HE3.out, HLN.out]
        clear q2
        go_wp2_with fail
        go_loop [15, 16, 17] (fun xv yv iv => ∃ k : Nat, k ≤ n ∧ iv = .int .i64 k ∧ xv = .int .i64 (sumOv l D W k) ∧ yv = .int .i64 (sumOv l3 D W k)) (fun _ _ iv => n - (intOf iv).toNat)
        case atStart => exact ⟨0, Nat.zero_le _, rfl, rfl, rfl⟩
        case round =>
          obtain ⟨k, hk, rfl, rfl, rfl⟩ := hrel
          have b1 := sumOv_bd HE.out k (by rw [HN.out]; exact hk)
          have b2 := sumOv_bd HE3.out k (by rw [HLN.out]; exact hk)
          by_cases hlt : k < n
          · have hlt' : (k : Int) < (n : Int) := by omega
            have s0 := ov_cell HOV2.out HN.out k hlt
            have s1 := ov_cell HOV3.out HLN.out k hlt
            have e0 := ov_bd HE.out (k := k) (by rw [HN.out]; exact hlt)
            have e1 := ov_bd HE3.out (k := k) (by rw [HLN.out]; exact hlt)
            have HS0 : Hid (sumOv l D W (k + 1) = sumOv l D W k + (nth l k - usu l D W k)) := rfl
            have HS1 : Hid (sumOv l3 D W (k + 1) = sumOv l3 D W k + (nth l3 k - usu l3 D W k)) := rfl
            clear pD
            generalize nth l k - usu l D W k = V0 at *
            generalize nth l3 k - usu l3 D W k = V1 at *
            generalize sumOv l D W k = S0 at *
            generalize sumOv l3 D W k = S1 at *
            go_wp2_with fail
            go_round
            case rel => exact ⟨k + 1, by omega, by go_num, uval (by rw [HS0.out]), uval (by rw [HS1.out])⟩
            case measure => simp [intOf]; omega
          · obtain rfl : k = n := by omega
            have s0 := ov_cell HOV2.out HN.out i hin
            have s1 := ov_cell HOV3.out HLN.out i hin
            have e0 := ov_bd HE.out (k := i) (by rw [HN.out]; exact hin)
            have e1 := ov_bd HE3.out (k := i) (by rw [HLN.out]; exact hin)
            have x0 := HAT3.out.2 i (by rw [HN.out]; exact hin)
            have c0 := HAL.out.2 i (by rw [HLN.out]; exact hin)
            rw [HVI.out] at c0 s1 e1
            rw [Nat.zero_add] at c0
            generalize nth l i - usu l D W i = V0 at *
            generalize nth l i + z - usu l3 D W i = V1 at *
            generalize sumOv l D W k = S0 at *
            generalize sumOv l3 D W k = S1 at *
            generalize nth l i = X at *
            have t1 : decide (V0 ≤ V1) = true := decide_eq_true pD
            have t2 : decide (S0 ≤ S1) = true := decide_eq_true pS
            have hw3 : IntKind.i64.wrap (S1 - S0) = S1 - S0 := IntWalk.i64_in _ (by omega)
            have hw4 : IntKind.i64.wrap (X + z - X) = z := by rw [show X + z - X = z by omega]; exact IntWalk.i64_in _ (by omega)
            have t3 : decide (S1 - S0 ≤ z) = true := decide_eq_true pT
            go_wp2_with fail
            go_quiet (fail)
            go_wp2_with fail
            go_ret
            exact ⟨uret_bool (by simp [*]), ubelow_dN (HB2.out.trans (HB3.out.mono HB2.out.size)) _⟩
end Go.Proofs.Ytikkeidapgmcnaa
