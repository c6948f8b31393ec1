/-
  Sums by names in a map; what is listed of them: the walk of names.Amounts.
-/
import Derived.Test.YtdgcfakbmhchdaaSGrow
import Derived.StringKeys
import Derived.Maps.OwnSet
import Derived.Maps.RangeWalk
import Derived.Maps.Ext
namespace Go.Proofs.Ytdgcfakbmhchdaa
open Go.RowKit Go.Sort Go.Maps Go.WideMaps

theorem strLaw : Keyed Try.prog 9 := string_keyed Try.underlying9
theorem zeroInt (w : World) : (zeroValue 3).run Try.prog w = .ok (.int .i64 0) w := by kernel_rfl
theorem key_of {s : ByteArray} (h : s.size ≤ maxLen) : keyOf Try.prog 9 (.string s) = some (.string s.data.toList) := keyOf_string_mk Try.underlying9 h
/-- The map in block b has the sums that g tells, of n keys at most. -/
def SumS (w : World) (b n : Nat) (g : ByteArray → Option Int) : Prop := ∃ D : DataW Unit, w.ownsMap Try.prog 9 (plainElem (H := Unit) Try.prog 3) b n D ∧ ∀ s : ByteArray, Maps.has D (.string s.data.toList) = (g s).isSome ∧ D.atKey (.string s.data.toList) (.lit (.int .i64 0)) = .lit (.int .i64 ((g s).getD 0))
theorem SumS.lt {w : World} {b n : Nat} {g : ByteArray → Option Int} (h : SumS w b n g) : b < w.heap.size := by
  obtain ⟨D, h, _⟩ := h
  exact h.lt
theorem SumS.below {w w' : World} {b n : Nat} {g : ByteArray → Option Int} (h : SumS w b n g) (hb : Go.RowKit.Below w.heap.size w w') : SumS w' b n g := by
  have hlt := h.lt
  obtain ⟨D, ⟨es, clock, hbk, h3⟩, h2⟩ := h
  exact ⟨D, ⟨es, clock, by rw [hb.block b hlt]; exact hbk, h3⟩, h2⟩
theorem SumS.made (w : World) : SumS (w.alloc (.map #[] 0)) w.heap.size 0 (fun _ => none) :=
  ⟨.map [], World.ownsMap_made _ _ _ _, fun k => ⟨by simp [Maps.has], by simp [DataW.atKey]⟩⟩
def putS (g : ByteArray → Option Int) (k : ByteArray) (v : Int) (k' : ByteArray) : Option Int := if k.data = k'.data then some v else g k'
set_option maxRecDepth 100000 in
theorem SumS.look {w : World} {b n : Nat} {g : ByteArray → Option Int} (h : SumS w b n g) (s : ByteArray) (hs : s.size ≤ maxLen) : (Instr.lookup 67 (.map (some b)) (.string s) false).run Try.prog w = .ok (.int .i64 ((g s).getD 0)) w := by
  obtain ⟨D, hown, hD⟩ := h
  obtain ⟨c, hrun, hat, _⟩ := hown.lookup_int strLaw Try.underlying67 Try.underlying3 (zeroInt _) (key_of hs)
  rw [(hD s).2] at hat
  injection hat with e
  injection e with _ e
  rw [e]
  exact hrun
theorem sum_put {D : DataW Unit} {g : ByteArray → Option Int} {nm : ByteArray} {v : Int} (hm : IsMap D) (h : ∀ s : ByteArray, Maps.has D (.string s.data.toList) = (g s).isSome ∧ D.atKey (.string s.data.toList) (.lit (.int .i64 0)) = .lit (.int .i64 ((g s).getD 0))) (s : ByteArray) :
    Maps.has (D.put (.string nm.data.toList) (.lit (.int .i64 v))) (.string s.data.toList) = (putS g nm v s).isSome ∧ (D.put (.string nm.data.toList) (.lit (.int .i64 v))).atKey (.string s.data.toList) (.lit (.int .i64 0)) = .lit (.int .i64 ((putS g nm v s).getD 0)) := by
  unfold putS
  by_cases e : nm.data = s.data
  · rw [if_pos e, ← e]
    exact ⟨has_put_same hm (show WideAt.IsKeyLit (.string nm.data.toList) from trivial) _, atKey_put_same hm (show WideAt.IsKeyLit (.string nm.data.toList) from trivial) _ _⟩
  · rw [if_neg e, has_put_other (by intro q; injection q with q; exact e (Array.toList_inj.1 q.symm)), atKey_put_other (by intro q; injection q with q; exact e (Array.toList_inj.1 q.symm))]
    exact h s
theorem ba_eq {a b : ByteArray} (h : a.data = b.data) : a = b := by cases a; cases b; simp at h; rw [h]
theorem own_sizeS {w : World} {b n : Nat} {D : DataW Unit} (h : w.ownsMap Try.prog 9 (plainElem (H := Unit) Try.prog 3) b n D) : Maps.size D ≤ n := by
  obtain ⟨es, clock, _, _, hs, rfl⟩ := h
  simp only [Maps.size]
  rw [length_sorted]
  simpa using hs
theorem wpList_next_strs {ops : Array Oper} {rest : List Oper} {o : Oper} {a : Act} {Q : Exit → Act → World → Prop} (w : World) (hg : o.guard = none) (it : Operand) (hop : o.op = Op.next it false)
    (b r n : Nat) (D : DataW Unit) (left : Lit → Bool) (cnt : Nat) (hit : a.eval it = .pointer (some ⟨r, 0, none⟩)) (h : w.ranges Try.prog 9 (plainElem (H := Unit) Try.prog 3) b r n D left cnt)
    (hDone : cnt = 0 → (∀ kl, left kl = false) → wpList Try.prog ops Q rest (a.put o.dst (.tuple #[.bool false])) w)
    (hMore : ∀ (s : ByteArray) (c : Int) (w' : World) (cnt' : Nat), s.size ≤ maxLen → left (.string s.data.toList) = true → (∀ zd, D.atKey (.string s.data.toList) zd = .lit (.int .i64 c)) →
      w'.ranges Try.prog 9 (plainElem (H := Unit) Try.prog 3) b r n D (fun z => left z && !z.sameKey (.string s.data.toList)) cnt' → cnt' < cnt → w.grownBy w' (some r) → w'.heap.size = w.heap.size →
      (Instr.entry (.pointer (some ⟨r, 0, none⟩))).run Try.prog w' = .ok (.tuple #[.string s, .int .i64 c]) w' →
      wpList Try.prog ops Q rest (a.put o.dst (.tuple #[.bool true, .string s, .int .i64 c])) w') :
    wpList Try.prog ops Q (o :: rest) a w := by
  refine wpList_next_ranges w hg it hop 9 strLaw (plainElem (H := Unit) Try.prog 3) Value.string (Value.int .i64) (fun key kl hk => ?_) (fun v y hv => ?_) b r n D left cnt hit h hDone (fun x c kl y w' cnt' hkey hlk hv hat hrg hlt hgr hsz hen => ?_)
  · obtain ⟨s, h1, _⟩ := string_of_keyOf Try.underlying9 hk
    exact ⟨s, h1⟩
  · obtain ⟨c, rfl, _⟩ := plainElem_int_inv Try.underlying3 hv
    exact ⟨c, rfl⟩
  · obtain ⟨s, h1, rfl, h2⟩ := string_of_keyOf Try.underlying9 hkey
    cases h1
    obtain ⟨c', ec, rfl, _⟩ := plainElem_int_inv Try.underlying3 hv
    cases ec
    exact hMore x c w' cnt' h2 hlk hat hrg hlt hgr hsz hen
/-- An amount that sums make: not 0. -/
def MadeS (g : ByteArray → Option Int) (t : Am) : Prop := t.name.size ≤ maxLen ∧ g t.name = some t.mon ∧ t.mon ≠ 0
/-- Those amounts that sums make, each once. -/
def ListS (g : ByteArray → Option Int) (l : List Am) : Prop := l.Nodup ∧ ∀ t, t ∈ l ↔ MadeS g t
def SoFarS (g : ByteArray → Option Int) (left : Lit → Bool) (l : List Am) : Prop := l.Nodup ∧ ∀ t, t ∈ l ↔ MadeS g t ∧ left (.string t.name.data.toList) = false
theorem same_str (a b : ByteArray) : (Lit.string a.data.toList).sameKey (.string b.data.toList) = decide (a = b) := by
  by_cases e : a = b
  · subst e
    rw [WideAt.sameKey_self (show WideAt.IsKeyLit (.string a.data.toList) from trivial)]
    simp
  · cases h : (Lit.string a.data.toList).sameKey (.string b.data.toList)
    · simp [e]
    · have := WideAt.sameKey_eq h
      injection this with this
      exact absurd (ba_eq (Array.toList_inj.1 this)) e
theorem SoFarS.skip {g : ByteArray → Option Int} {left : Lit → Bool} {l : List Am} (h : SoFarS g left l) {k : ByteArray} (hg : g k = some 0) : SoFarS g (fun z => left z && !z.sameKey (.string k.data.toList)) l := by
  obtain ⟨h1, h2⟩ := h
  refine ⟨h1, fun t => ?_⟩
  rw [h2]
  constructor
  · rintro ⟨hm, hl⟩
    exact ⟨hm, by simp [hl]⟩
  · rintro ⟨hm, hl⟩
    refine ⟨hm, ?_⟩
    simp only [same_str] at hl
    by_cases e : t.name = k
    · have := hm.2.1
      rw [e, hg] at this
      exact absurd (Option.some.inj this).symm hm.2.2
    · simpa [e] using hl
theorem SoFarS.take {g : ByteArray → Option Int} {left : Lit → Bool} {l : List Am} (h : SoFarS g left l) {c : Int} {s : ByteArray} (hk : s.size ≤ maxLen) (hl0 : left (.string s.data.toList) = true) (hg : g s = some c) (hc : c ≠ 0) :
    SoFarS g (fun z => left z && !z.sameKey (.string s.data.toList)) (l ++ [⟨s, c⟩]) := by
  obtain ⟨h1, h2⟩ := h
  have hnew : (⟨s, c⟩ : Am) ∉ l := fun hin => by
    have := ((h2 _).1 hin).2
    rw [hl0] at this
    cases this
  refine ⟨?_, fun t => ?_⟩
  · rw [List.nodup_append]
    refine ⟨h1, by simp, fun a ha b hb e => ?_⟩
    simp only [List.mem_singleton] at hb
    subst hb
    subst e
    exact hnew ha
  · rw [List.mem_append, h2, List.mem_singleton]
    constructor
    · rintro (⟨hm', hl⟩ | rfl)
      · exact ⟨hm', by simp [hl]⟩
      · exact ⟨⟨hk, hg, hc⟩, by simp only [same_str]; simp⟩
    · rintro ⟨hm', hl⟩
      simp only [same_str] at hl
      by_cases e : t.name = s
      · refine .inr ?_
        have := hm'.2.1
        rw [e, hg] at this
        have e' := Option.some.inj this
        obtain ⟨a, b⟩ := t
        simp only at e e'
        rw [e, e']
      · exact .inl ⟨hm', by simpa [e] using hl⟩
theorem SoFarS.done {g : ByteArray → Option Int} {left : Lit → Bool} {l : List Am} (h : SoFarS g left l) (h0 : ∀ kl, left kl = false) : ListS g l := ⟨h.1, fun t => (h.2 t).trans ⟨fun h => h.1, fun hm => ⟨hm, h0 _⟩⟩⟩
theorem ListS.perm {g : ByteArray → Option Int} {l l' : List Am} (h : ListS g l) (hp : l'.Perm l) : ListS g l' := ⟨hp.nodup_iff.2 h.1, fun t => hp.mem_iff.trans (h.2 t)⟩
/-- Do names rise? -/
def upA (l : List Am) : Prop := l.Pairwise fun a b => ltS a.name b.name = true
theorem anth_get {l : List Am} {j : Nat} (hj : j < l.length) : anth l j = l[j] := by simp [anth, List.getD_eq_getElem?_getD, hj]
theorem sorted_upA {g : ByteArray → Option Int} {l : List Am} (h : ListS g l) (hs : ∀ i j, i < j → j < l.length → ltS (anth l j).name (anth l i).name = false) : upA l := by
  unfold upA
  rw [List.pairwise_iff_getElem]
  intro i j hi hj hij
  have h1 := hs i j hij hj
  rw [anth_get hi, anth_get hj] at h1
  cases h2 : ltS l[i].name l[j].name
  · have e := ltS_tri h2 h1
    have m1 := (h.2 l[i]).1 (List.getElem_mem hi)
    have m2 := (h.2 l[j]).1 (List.getElem_mem hj)
    have e2 : l[i] = l[j] := by
      have q1 := m1.2.1
      have q2 := m2.2.1
      rw [e, q2] at q1
      have q3 := Option.some.inj q1
      generalize l[i] = x at *
      generalize l[j] = y at *
      obtain ⟨a, b⟩ := x
      obtain ⟨c, d⟩ := y
      simp only at e q3
      rw [e, q3]
    exact absurd e2 ((List.pairwise_iff_getElem.1 (show l.Pairwise (· ≠ ·) from h.1)) i j hi hj hij)
  · rfl
/-- The one list that sums make, rising. -/
theorem upA_unique {l l' : List Am} (h : upA l) (h' : upA l') (hp : l.Perm l') : l = l' := by
  refine List.Perm.eq_of_pairwise (fun a b _ _ h1 h2 => ?_) h h' hp
  have := ltS_trans h1 h2
  rw [ltS_irrefl] at this
  cases this
def AmsOf (g : ByteArray → Option Int) (l : List Am) : Prop := ListS g l ∧ upA l
theorem AmsOf.unique {g : ByteArray → Option Int} {l l' : List Am} (h : AmsOf g l) (h' : AmsOf g l') : l = l' := upA_unique h.2 h'.2 ((List.perm_ext_iff_of_nodup h.1.1 h'.1.1).2 fun t => (h.1.2 t).trans (h'.1.2 t).symm)
def LoopS (w : World) (b n : Nat) (g : ByteArray → Option Int) (D : DataW Unit) (lv : Value) (wr : World) (cnt : Nat) : Prop :=
  ∃ (left : Lit → Bool) (l : List Am), wr.ranges Try.prog 9 (plainElem (H := Unit) Try.prog 3) b w.heap.size n D left cnt ∧ GrowA wr (w.heap.size + 1) lv l ∧ SoFarS g left l ∧ (∀ kl, left kl = true → Maps.has D kl = true) ∧ l.length + cnt ≤ n ∧ Go.RowKit.Below w.heap.size w wr ∧ w.heap.size + 1 ≤ wr.heap.size
theorem aat_box (w : World) (s : ByteArray) (c : Int) : AAt (w.alloc (.cells #[.string s, .int .i64 c] 56)) w.heap.size 0 [⟨s, c⟩] := by
  refine ⟨by simp, fun j hj => ?_⟩
  obtain rfl : j = 0 := by simpa using hj
  refine ⟨?_, ?_⟩ <;> simp [anth]
/-- Amounts that lie in a slice. -/
def AmsIn (w : World) (v : Value) (l : List Am) : Prop := ∃ x c, v = .slice x l.length c ∧ CameA w x l
theorem AmsIn.below {w w' : World} {v : Value} {l : List Am} (h : AmsIn w v l) (hb : Go.RowKit.Below w.heap.size w w') : AmsIn w' v l := by
  obtain ⟨x, c, e, h⟩ := h
  exact ⟨x, c, e, h.below hb⟩
theorem AmsIn.nil (w : World) : AmsIn w (.slice none 0 0) [] := ⟨none, 0, rfl, .inl rfl⟩
/-- Sums of amounts. -/
def stepS (g : ByteArray → Option Int) (a : Am) : ByteArray → Option Int := putS g a.name ((g a.name).getD 0 + a.mon)
def sumsS (l : List Am) : ByteArray → Option Int := l.foldl stepS (fun _ => none)
theorem sumsS_snoc (l : List Am) (a : Am) : sumsS (l ++ [a]) = stepS (sumsS l) a := by unfold sumsS; rw [List.foldl_append]; rfl
/-- What those with a name come to. -/
def sumN (s : ByteArray) : List Am → Int
  | [] => 0
  | a :: r => (if a.name.data = s.data then a.mon else 0) + sumN s r
def hasN (s : ByteArray) (l : List Am) : Bool := l.any fun a => decide (a.name.data = s.data)
theorem sumN_append (s : ByteArray) : ∀ l m : List Am, sumN s (l ++ m) = sumN s l + sumN s m
  | [], m => by simp [sumN]
  | a :: r, m => by rw [List.cons_append, sumN, sumN, sumN_append s r m]; omega
theorem sumN_none {s : ByteArray} : ∀ {l : List Am}, hasN s l = false → sumN s l = 0
  | [], _ => rfl
  | a :: r, h => by
    simp [hasN] at h
    rw [sumN, if_neg h.1, sumN_none (l := r) (by simp [hasN]; exact h.2)]
    rfl
theorem snocInd {P : List Am → Prop} (h0 : P []) (hs : ∀ l a, P l → P (l ++ [a])) (l : List Am) : P l := by
  rw [← List.reverse_reverse l]
  generalize l.reverse = r
  induction r with
  | nil => exact h0
  | cons a r ih => rw [List.reverse_cons]; exact hs _ a ih
theorem sumsS_eq (l : List Am) (s : ByteArray) : sumsS l s = if hasN s l = true then some (sumN s l) else none := by
  revert s
  refine snocInd (P := fun l => ∀ s, sumsS l s = if hasN s l = true then some (sumN s l) else none) (fun s => rfl) (fun l a ih s => ?_) l
  rw [sumsS_snoc]
  unfold stepS putS
  have hh : hasN s (l ++ [a]) = (hasN s l || decide (a.name.data = s.data)) := by simp [hasN]
  have hn : sumN s (l ++ [a]) = sumN s l + (if a.name.data = s.data then a.mon else 0) := by rw [sumN_append]; simp [sumN]
  rw [hh, hn]
  by_cases e : a.name.data = s.data
  · have e' : a.name = s := ba_eq e
    rw [if_pos e, if_pos e, decide_eq_true e, ih, e']
    cases h : hasN s l
    · rw [sumN_none h]; simp
    · simp
  · rw [if_neg e, if_neg e, decide_eq_false e, ih]
    simp
theorem sumsS_getD (l : List Am) (s : ByteArray) : (sumsS l s).getD 0 = sumN s l := by
  rw [sumsS_eq]
  cases h : hasN s l
  · rw [sumN_none h]; rfl
  · rfl
theorem sumN_bd {s : ByteArray} : ∀ {l : List Am}, (∀ r ∈ l, monB r.mon = true) → -(1000000000000 * (l.length : Int)) ≤ sumN s l ∧ sumN s l ≤ 1000000000000 * (l.length : Int)
  | [], _ => by simp [sumN]
  | p :: r, h => by
    have ih := sumN_bd (s := s) (l := r) fun x hx => h x (by simp [hx])
    have hp := of_decide_eq_true (h p (by simp))
    rw [sumN, List.length_cons]
    push_cast
    split <;> omega
set_option maxRecDepth 100000 in
set_option maxHeartbeats 2000000 in
theorem Amounts_any (b n : Nat) (g : ByteArray → Option Int) (w : World) (h : SumS w b n g) (hn : n ≤ 100000) :
    Calls Try.prog 37 #[.map (some b)] w fun e w' => ∃ (l : List Am) (v : Value), e = .returned v ∧ AmsOf g l ∧ l.length ≤ n ∧ AmsIn w' v l ∧ Go.RowKit.Below w.heap.size w w' := by
  have hblt := h.lt
  obtain ⟨D, hown, hD⟩ := h
  have HD := Lib.hid hD
  have HSZ := Lib.hid (own_sizeS hown)
  clear hD
  go_enter Try.func37, Try.ntmps37
  go_wp2_with (first | (at_range; refine wpList_range_own _ rfl _ 67 rfl 9 3 strLaw Try.underlying67 _ b n D rfl hown ?_; intro w0 hrg0 hg0 hs0))
  go_frame
  go_loopw [3] (fun lv wr => ∃ cnt, LoopS w b n g D lv wr cnt) (fun _ wr => wr.rangeLeft b w.heap.size)
  case atStart =>
    refine ⟨_, _, [], hrg0, GrowA.nil _ _, ⟨List.nodup_nil, fun t => ?_⟩, fun _ h => h, ?_, (Below.refl _ w).grown hg0 (Nat.le_refl _) (fun r hr => by cases hr), by omega⟩
    · simp only [List.not_mem_nil, false_iff]
      rintro ⟨hm, hl⟩
      rw [(HD.out _).1, hm.2.1] at hl
      cases hl
    · simpa using HSZ.out
  case round =>
    clear hrg0 hg0 hs0
    obtain ⟨cnt, left, l, hrg, hgr, hso, hlh, hlen, hb, hsz⟩ := hrel
    obtain ⟨x9, c9, hlv, _⟩ := hgr.slice
    subst hlv
    generalize hm9 : l.length = m9 at hgr hlen ⊢
    have HG := Lib.hid hgr
    have HS := Lib.hid hso
    have HL := Lib.hid hlh
    have HN := Lib.hid hlen
    have HB := Lib.hid hb
    have HZ := Lib.hid hsz
    have HRG := Lib.hid hrg
    have HM9 := Lib.hid hm9
    have HBL := Lib.hid hblt
    have hm63 : m9 ≤ 9223372036854775807 := by omega
    clear hgr hso hlh hlen hb hsz hm9 hblt hown
    go_wp2_with (first | (at_next; refine wpList_next_strs _ rfl _ rfl b w.heap.size n D left cnt rfl hrg ?_ ?_))
    case refine_1 =>
      intro _ hl0
      have HDN := Lib.hid (HS.out.done hl0)
      clear hl0 hrg
      rcases HG.out.form with ⟨hv, hl⟩ | ⟨gg, cc, hv, hBg, hoat, hH⟩
      · have h0 : m9 = 0 := by rw [← HM9.out, hl]; rfl
        subst h0
        have HL0 := Lib.hid hl
        have HV := Lib.hid hv
        clear hl hv
        go_wp2_with (first | (go_at_call 49; refine (sort_none _ _ _).mono ?_; rintro e w' ⟨rfl, h'⟩; subst w'))
        go_ret
        exact ⟨[], _, rfl, ⟨by rw [← HL0.out]; exact HDN.out, List.Pairwise.nil⟩, by simp, ⟨_, _, rfl, .inl rfl⟩, HB.out⟩
      · injection hv with hv1 hv2 hv3
        subst hv1 hv3
        have HH := Lib.hid hH
        have HGL := Lib.hid hoat.1
        have HBG := Lib.hid hBg
        clear hoat hH hBg
        subst hv2
        go_wp2_with (first | (go_at_call 49; refine (sort_any gg _ l _ HH.out HGL.out (by have := HN.out; omega)).mono ?_; rintro e w' ⟨rfl, hsrt⟩))
        go_ret
        obtain ⟨l', hp, hs, hat', hbel⟩ := hsrt
        have hl' : ListS g l' := HDN.out.perm hp
        have hlen' : l'.length = l.length := hp.length_eq
        exact ⟨l', _, rfl, ⟨hl', sorted_upA hl' hs⟩, by have := HN.out; omega, ⟨_, _, by rw [hlen']; rfl, .inr ⟨gg, 0, rfl, hat'⟩⟩, hbel _ _ (by have := HBG.out; omega) (Nat.le_refl _) HB.out⟩
    case refine_2 =>
      intro s c w1 cnt1 hwk hlk hat hrg1 hlt hg1 hs1 hen
      clear hrg
      have HGK : Hid (g s = some c) := by
        unfold Hid
        have e1 := (HD.out s).1
        have e2 := (HD.out s).2
        rw [HL.out _ hlk] at e1
        rw [hat] at e2
        cases hgk : g s with
        | none => rw [hgk] at e1; cases e1
        | some v =>
          rw [hgk] at e2
          injection e2 with e2
          injection e2 with _ e2
          rw [e2]
          rfl
      have HWK := Lib.hid hwk
      have HLK := Lib.hid hlk
      have HRG1 := Lib.hid hrg1
      have HG1 := Lib.hid (HG.out.kept hg1 (fun r hr => by cases hr; omega))
      have HB1 := Lib.hid (HB.out.grown hg1 HB.out.size (fun r hr => by cases hr; exact Nat.le_refl _))
      have HZ1 : Hid (w.heap.size + 1 ≤ w1.heap.size) := Lib.hid (by rw [hs1]; exact HZ.out)
      clear hwk hlk hrg1 hg1 hs1 hat
      by_cases hc0 : c = 0
      · have hc0' : (c != 0) = false := by simp [hc0]
        have HS2 := Lib.hid (HS.out.skip (by rw [HGK.out, hc0]))
        clear hc0
        go_wp2_with fail
        go_roundw
        case rel =>
          refine ⟨cnt1, _, l, HRG1.out, HG1.out, HS2.out, fun kl h => ?_, by have := HN.out; have := HM9.out; omega, HB1.out, HZ1.out⟩
          simp only [Bool.and_eq_true] at h
          exact HL.out kl h.1
        case measure => rw [HRG1.out.left_eq, HRG.out.left_eq]; omega
      · have hc0' : (c != 0) = true := by simp [hc0]
        have HS2 := Lib.hid (HS.out.take HWK.out HLK.out HGK.out hc0)
        have hz1 := HZ1.out
        have hnn := HN.out
        have hmm := HM9.out
        have hbl := HBL.out
        clear hc0
        have HG2 := Lib.hid (HG1.out.alloc (.cells #[.string s, .int .i64 c] 56))
        have HB2 := Lib.hid (HB1.out.alloc HB1.out.size (.cells #[.string s, .int .i64 c] 56))
        have HRG2 := Lib.hid (HRG1.out.alloc (.cells #[.string s, .int .i64 c] 56))
        have HOA := Lib.hid (aat_box w1 s c)
        have HLT := Lib.hid (HG2.out.lt)
        have hbb : w.heap.size + 1 ≤ (w1.alloc (.cells #[.string s, .int .i64 c] 56)).heap.size := by simp; omega
        have HBB := Lib.hid hbb
        clear hbb hz1
        go_wp2_with (first
          | (at_builtin; refine wpList_app_ams _ rfl _ _ rfl (w.heap.size + 1) (.slice x9 m9 c9) l rfl HG2.out w1.heap.size 0 1 1 [⟨s, c⟩] rfl HOA.out rfl (by omega) HBB.out ?_; intro v' w2 hgr2 hgrow2 hbel2))
        have HRG3 := Lib.hid (HRG2.out.kept hgrow2 (fun e => by have := (HLT.out _ e.symm).1; omega) (fun e => by have := (HLT.out _ e.symm).1; omega))
        go_roundw
        case rel =>
          refine ⟨cnt1, _, _, HRG3.out, hgr2, HS2.out, fun kl h => ?_, by rw [List.length_append]; simp; omega, HB2.out.trans (hbel2.mono (by omega)), Nat.le_trans HBB.out hgrow2.size⟩
          simp only [Bool.and_eq_true] at h
          exact HL.out kl h.1
        case measure => rw [HRG3.out.left_eq, HRG.out.left_eq]; omega
end Go.Proofs.Ytdgcfakbmhchdaa
