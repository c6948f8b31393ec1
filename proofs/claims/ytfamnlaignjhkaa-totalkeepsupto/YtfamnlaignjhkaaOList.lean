/-
  Promises M2, M4: totals that are listed of sums: what comes of a map, whatever its order.
-/
import Derived.Test.YtfamnlaignjhkaaOMap
import Derived.Test.YtfamnlaignjhkaaOApp
namespace Go.Proofs.Ytfamnlaignjhkaa
open Go.RowKit Go.Sort Go.Maps Go.WideMaps

theorem wpList_next_sums {ops : Array Oper} {rest : List Oper} {o : Oper} {a : Act} {Q : Exit → Act → World → Prop} (w : World) (hg : o.guard = none) (it : Operand) (hop : o.op = Op.next it false)
    (b r n : Nat) (D : DataW Unit) (left : Lit → Bool) (cnt : Nat) (hit : a.eval it = .pointer (some ⟨r, 0, none⟩)) (h : w.ranges Try.prog 67 (plainElem (H := Unit) Try.prog 3) b r n D left cnt)
    (hDone : cnt = 0 → (∀ kl, left kl = false) → wpList Try.prog ops Q rest (a.put o.dst (.tuple #[.bool false])) w)
    (hMore : ∀ (p y : Int) (s : ByteArray) (c : Int) (w' : World) (cnt' : Nat), WfK ⟨p, y, s⟩ → left (kLit ⟨p, y, s⟩) = true → (∀ zd, D.atKey (kLit ⟨p, y, s⟩) zd = .lit (.int .i64 c)) →
      w'.ranges Try.prog 67 (plainElem (H := Unit) Try.prog 3) b r n D (fun z => left z && !z.sameKey (kLit ⟨p, y, s⟩)) cnt' → cnt' < cnt → w.grownBy w' (some r) → w'.heap.size = w.heap.size →
      (Instr.entry (.pointer (some ⟨r, 0, none⟩))).run Try.prog w' = .ok (.tuple #[.agg #[.int .i64 p, .int .i64 y, .string s], .int .i64 c]) w' →
      wpList Try.prog ops Q rest (a.put o.dst (.tuple #[.bool true, .agg #[.int .i64 p, .int .i64 y, .string s], .int .i64 c])) w') :
    wpList Try.prog ops Q (o :: rest) a w := by
  refine wpList_next_ranges w hg it hop 67 keyLaw (plainElem (H := Unit) Try.prog 3) kyV (Value.int .i64) (fun key kl hk => ?_) (fun v y hv => ?_) b r n D left cnt hit h hDone (fun x c kl y w' cnt' hkey hlk hv hat hrg hlt hgr hsz hen => ?_)
  · obtain ⟨k, h1, _⟩ := key_inv hk
    exact ⟨k, h1⟩
  · obtain ⟨c, rfl, _⟩ := plainElem_int_inv Try.underlying3 hv
    exact ⟨c, rfl⟩
  · obtain ⟨k, h1, h2, rfl⟩ := key_inv hkey
    have e : x = k := by
      unfold kyV at h1
      cases x
      cases k
      simp at h1
      obtain ⟨rfl, rfl, rfl⟩ := h1
      rfl
    subst e
    obtain ⟨c', ec, rfl, _⟩ := plainElem_int_inv Try.underlying3 hv
    cases ec
    exact hMore x.per x.yr x.nam c w' cnt' h2 hlk hat hrg hlt hgr hsz hen
theorem own_size {w : World} {b n : Nat} {D : DataW Unit} (h : w.ownsMap Try.prog 67 (plainElem (H := Unit) Try.prog 3) b n D) : Maps.size D ≤ n := by
  obtain ⟨es, clock, _, _, hs, rfl⟩ := h
  simp only [Maps.size]
  rw [length_sorted]
  simpa using hs
/-- A total that sums make: not 0. -/
def MadeBy (g : Ky → Option Int) (t : Tt) : Prop := WfK (keyT t) ∧ g (keyT t) = some t.mon ∧ t.mon ≠ 0
/-- Those totals that sums make, each once. -/
def ListOf (g : Ky → Option Int) (l : List Tt) : Prop := l.Nodup ∧ ∀ t, t ∈ l ↔ MadeBy g t
def AllMon (g : Ky → Option Int) : Prop := ∀ k x, WfK k → g k = some x → monB x = true
/-- What listed answers. -/
def ListRet (g : Ky → Option Int) (w' : World) (v : Value) (er : Int) : Prop :=
  (¬ AllMon g ∧ er = 3 ∧ v = .slice none 0 0) ∨
  (AllMon g ∧ ∃ l, ListOf g l ∧ 400 < l.length ∧ er = 2 ∧ v = .slice none 0 0) ∨
  (AllMon g ∧ ∃ l, ListOf g l ∧ l.length ≤ 400 ∧ upT l = true ∧ er = 0 ∧ ∃ x c, v = .slice x l.length c ∧ CameO w' x l)
/-- So far: those keys that are no longer to come. -/
def SoFar (g : Ky → Option Int) (left : Lit → Bool) (l : List Tt) : Prop :=
  l.Nodup ∧ (∀ t, t ∈ l ↔ MadeBy g t ∧ left (kLit (keyT t)) = false) ∧ ∀ k x, WfK k → g k = some x → left (kLit k) = false → monB x = true
theorem same_key {a b : Ky} (ha : WfK a) (hb : WfK b) : (kLit a).sameKey (kLit b) = decide (a = b) := by
  by_cases e : a = b
  · subst e
    rw [WideAt.sameKey_self (keyLaw.key (key_some ha))]
    simp
  · cases h : (kLit a).sameKey (kLit b)
    · simp [e]
    · exact absurd (kLit_inj ha hb (WideAt.sameKey_eq h)) e
theorem SoFar.skip {g : Ky → Option Int} {left : Lit → Bool} {l : List Tt} (h : SoFar g left l) {k : Ky} (hk : WfK k) (hg : g k = some 0) : SoFar g (fun z => left z && !z.sameKey (kLit k)) l := by
  obtain ⟨h1, h2, h3⟩ := h
  refine ⟨h1, fun t => ?_, fun k' x hk' hx hl => ?_⟩
  · rw [h2]
    constructor
    · rintro ⟨hm, hl⟩
      exact ⟨hm, by simp [hl]⟩
    · rintro ⟨hm, hl⟩
      refine ⟨hm, ?_⟩
      simp only [same_key hm.1 hk] at hl
      by_cases e : keyT t = k
      · have := hm.2.1
        rw [e, hg] at this
        exact absurd (Option.some.inj this).symm hm.2.2
      · simpa [e] using hl
  · simp only [same_key hk' hk] at hl
    by_cases e : k' = k
    · subst e
      rw [hg] at hx
      cases hx
      rfl
    · exact h3 k' x hk' hx (by simpa [e] using hl)
theorem SoFar.take {g : Ky → Option Int} {left : Lit → Bool} {l : List Tt} (h : SoFar g left l) {p y c : Int} {s : ByteArray} (hk : WfK ⟨p, y, s⟩) (hl0 : left (kLit ⟨p, y, s⟩) = true) (hg : g ⟨p, y, s⟩ = some c) (hc : c ≠ 0) (hm : monB c = true) :
    SoFar g (fun z => left z && !z.sameKey (kLit ⟨p, y, s⟩)) (l ++ [⟨p, s, y, c⟩]) := by
  obtain ⟨h1, h2, h3⟩ := h
  have hnew : (⟨p, s, y, c⟩ : Tt) ∉ l := fun hin => by
    have := ((h2 _).1 hin).2
    rw [show keyT ⟨p, s, y, c⟩ = ⟨p, y, s⟩ from rfl, hl0] at this
    cases this
  refine ⟨?_, fun t => ?_, fun k' x hk' hx hl => ?_⟩
  · rw [List.nodup_append]
    refine ⟨h1, by simp, fun a ha b hb e => ?_⟩
    simp only [List.mem_singleton] at hb
    subst hb
    subst e
    exact hnew ha
  · rw [List.mem_append, h2, List.mem_singleton]
    constructor
    · rintro (⟨hm', hl⟩ | rfl)
      · exact ⟨hm', by simp [hl]⟩
      · exact ⟨⟨hk, hg, hc⟩, by
          show (left (kLit ⟨p, y, s⟩) && !(kLit ⟨p, y, s⟩).sameKey (kLit ⟨p, y, s⟩)) = false
          rw [same_key hk hk]; simp⟩
    · rintro ⟨hm', hl⟩
      simp only [same_key hm'.1 hk] at hl
      by_cases e : keyT t = ⟨p, y, s⟩
      · refine .inr ?_
        have := hm'.2.1
        rw [e, hg] at this
        have e' := Option.some.inj this
        obtain ⟨a, b', c', d⟩ := t
        simp only [keyT, Ky.mk.injEq] at e
        obtain ⟨rfl, rfl, rfl⟩ := e
        simp only at e'
        subst e'
        rfl
      · exact .inl ⟨hm', by simpa [e] using hl⟩
  · simp only [same_key hk' hk] at hl
    by_cases e : k' = ⟨p, y, s⟩
    · subst e
      rw [hg] at hx
      cases hx
      exact hm
    · exact h3 k' x hk' hx (by simpa [e] using hl)
theorem SoFar.done {g : Ky → Option Int} {left : Lit → Bool} {l : List Tt} (h : SoFar g left l) (h0 : ∀ kl, left kl = false) : AllMon g ∧ ListOf g l :=
  ⟨fun k x hk hx => h.2.2 k x hk hx (h0 _), h.1, fun t => by rw [h.2.1]; simp [h0]⟩
theorem sorted_up {l : List Tt} (hn : l.Nodup) (hk : ∀ a ∈ l, ∀ b ∈ l, keyT a = keyT b → a = b) (h : ∀ i j, i < j → j < l.length → aheadT (onth l j) (onth l i) = false) : upT l = true := by
  refine upT_iff.2 fun j hj => ?_
  cases ha : aheadT (onth l j) (onth l (j + 1))
  · have e := aheadT_tri ha (h j (j + 1) (by omega) hj)
    have e2 := hk (onth l j) (onth_mem (by omega)) (onth l (j + 1)) (onth_mem hj) (by unfold keyT; rw [e.1, e.2.1, e.2.2])
    unfold onth at e2
    have hj0 : j < l.length := by omega
    simp only [List.getD_eq_getElem?_getD, List.getElem?_eq_getElem hj0, List.getElem?_eq_getElem hj, Option.getD_some] at e2
    have := (List.nodup_iff_pairwise_ne.1 hn)
    have := List.pairwise_iff_getElem.1 this j (j + 1) (by omega) hj (by omega)
    exact absurd e2 this
  · rfl
theorem ListOf.keys {g : Ky → Option Int} {l : List Tt} (h : ListOf g l) : ∀ a ∈ l, ∀ b ∈ l, keyT a = keyT b → a = b := by
  intro a ha b hb e
  have h1 := ((h.2 a).1 ha).2.1
  have h2 := ((h.2 b).1 hb).2.1
  rw [e, h2] at h1
  have e' := Option.some.inj h1
  obtain ⟨a1, a2, a3, a4⟩ := a
  obtain ⟨b1, b2, b3, b4⟩ := b
  simp only [keyT, Ky.mk.injEq] at e
  obtain ⟨rfl, rfl, rfl⟩ := e
  simp only at e'
  rw [e']
theorem ListOf.perm {g : Ky → Option Int} {l l' : List Tt} (h : ListOf g l) (hp : l'.Perm l) : ListOf g l' :=
  ⟨hp.nodup_iff.2 h.1, fun t => by rw [hp.mem_iff]; exact h.2 t⟩
end Go.Proofs.Ytfamnlaignjhkaa
