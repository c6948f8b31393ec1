/-
  Promise M5: plain mathematics of sums that are added and taken; two lists of totals that are alike.
-/
import Derived.Test.YtfamnlaignjhkaaOAdd
namespace Go.Proofs.Ytfamnlaignjhkaa
open Go.RowKit Go.Sort

theorem sumK_none {k : Ky} {L : List Tt} (h : ¬ ∃ t ∈ L, keyT t = k) : sumK k L = 0 := ((sumsOf_some k L).2 h).2
theorem sumK_some {k : Ky} {L : List Tt} (h : sumK k L ≠ 0) : ∃ t ∈ L, keyT t = k := Classical.byContradiction fun hn => h (sumK_none hn)
theorem made_iff {L : List Tt} {t : Tt} : MadeBy (sumsOf L) t ↔ WfK (keyT t) ∧ sumK (keyT t) L = t.mon ∧ t.mon ≠ 0 := by
  unfold MadeBy
  by_cases hk : ∃ t' ∈ L, keyT t' = keyT t
  · rw [(sumsOf_some _ L).1 hk]
    constructor
    · rintro ⟨h1, h2, h3⟩; exact ⟨h1, Option.some.inj h2, h3⟩
    · rintro ⟨h1, h2, h3⟩; exact ⟨h1, by rw [h2], h3⟩
  · rw [((sumsOf_some _ L).2 hk).1, ((sumsOf_some _ L).2 hk).2]
    constructor
    · rintro ⟨_, h2, _⟩; cases h2
    · rintro ⟨_, h2, h3⟩; exact absurd h2.symm h3
theorem allMon_iff {L : List Tt} : AllMon (sumsOf L) ↔ ∀ k, WfK k → monB (sumK k L) = true := by
  constructor
  · intro h k hk
    by_cases hx : ∃ t ∈ L, keyT t = k
    · exact h k _ hk ((sumsOf_some k L).1 hx)
    · rw [sumK_none hx]; rfl
  · intro h k x hk hx
    by_cases hx' : ∃ t ∈ L, keyT t = k
    · rw [(sumsOf_some k L).1 hx'] at hx
      cases hx
      exact h k hk
    · rw [((sumsOf_some k L).2 hx').1] at hx
      cases hx
theorem sumK_pair : ∀ {l : List Tt}, l.Pairwise (fun a b => aheadT a b = true) → ∀ {x : Tt}, x ∈ l → sumK (keyT x) l = x.mon
  | [], _, x, hx => by simp at hx
  | t :: r, hp, x, hx => by
    rw [List.pairwise_cons] at hp
    rw [sumK]
    by_cases e : keyT t = keyT x
    · have hno : ¬ ∃ y ∈ r, keyT y = keyT x := fun ⟨y, hy, hk⟩ => ahead_key (hp.1 y hy) (e.trans hk.symm)
      rw [if_pos e, sumK_none hno]
      rcases List.mem_cons.1 hx with rfl | hx
      · omega
      · exact absurd ⟨x, hx, rfl⟩ hno
    · rw [if_neg e]
      rcases List.mem_cons.1 hx with rfl | hx
      · exact absurd rfl e
      · rw [sumK_pair hp.2 hx]; omega
theorem sumK_uniq {l : List Tt} (h : upT l = true) {x : Tt} (hx : x ∈ l) : sumK (keyT x) l = x.mon := sumK_pair (up_pairwise h) hx
theorem sumK_neg (k : Ky) : ∀ l : List Tt, sumK k (negL l) = -sumK k l
  | [] => rfl
  | t :: r => by
    show (if keyT (negT t) = k then (negT t).mon else 0) + sumK k (negL r) = -((if keyT t = k then t.mon else 0) + sumK k r)
    rw [sumK_neg k r, show keyT (negT t) = keyT t from rfl, show (negT t).mon = -t.mon from rfl]
    split <;> omega
theorem listOf_sum {L X : List Tt} (h : ListOf (sumsOf L) X) (hu : upT X = true) {k : Ky} (hk : WfK k) : sumK k X = sumK k L := by
  by_cases hz : sumK k L = 0
  · rw [hz]
    refine sumK_none fun ⟨x, hx, e⟩ => ?_
    have := made_iff.1 ((h.2 x).1 hx)
    rw [e, hz] at this
    exact this.2.2 this.2.1.symm
  · have hx : (⟨k.per, k.nam, k.yr, sumK k L⟩ : Tt) ∈ X := (h.2 _).2 (made_iff.2 ⟨hk, rfl, hz⟩)
    exact sumK_uniq hu hx
theorem sumsOf_congr {L M : List Tt} (h : ∀ t, t ∈ L ↔ t ∈ M) (hs : ∀ k, sumK k L = sumK k M) : sumsOf L = sumsOf M := by
  funext k
  by_cases hx : ∃ t ∈ L, keyT t = k
  · rw [(sumsOf_some k L).1 hx, (sumsOf_some k M).1 (by obtain ⟨t, ht, e⟩ := hx; exact ⟨t, (h t).1 ht, e⟩), hs]
  · rw [((sumsOf_some k L).2 hx).1, ((sumsOf_some k M).2 (fun ⟨t, ht, e⟩ => hx ⟨t, (h t).2 ht, e⟩)).1]
theorem sums_turn (l m : List Tt) : sumsOf (l ++ m) = sumsOf (m ++ l) := by
  refine sumsOf_congr (fun t => ?_) (fun k => ?_)
  · rw [List.mem_append, List.mem_append]; exact Or.comm
  · rw [sumK_append, sumK_append]; omega
theorem wrong_parts {b : Bool} {t : Tt} (h : wrongT b t = 0) : perB t.per = true ∧ yrB t.yr = true ∧ kindB b t.mon = true ∧ namB t.nam = true := by
  unfold wrongT at h
  split at h
  · rename_i hc
    split at h
    · rename_i hn; exact ⟨hc.1, hc.2.1, hc.2.2, hn⟩
    · cases h
  · cases h
theorem wrong_of {b : Bool} {t : Tt} (h : perB t.per = true ∧ yrB t.yr = true ∧ kindB b t.mon = true ∧ namB t.nam = true) : wrongT b t = 0 := by
  unfold wrongT
  rw [if_pos ⟨h.1, h.2.1, h.2.2.1⟩, if_pos h.2.2.2]
theorem totE_zero {l : List Tt} (h1 : l.length ≤ 400) (h2 : ∀ t ∈ l, wrongT false t = 0) (h3 : upT l = true) : totE l = 0 := by
  have e : checkE false l = 0 := by
    unfold checkE
    rw [if_neg (by omega)]
    exact firstW_ok fun j hj => h2 _ (onth_mem hj)
  unfold totE
  rw [if_pos e, if_pos h3]
theorem totE_wrong {l : List Tt} (h : totE l = 0) : ∀ t ∈ l, wrongT false t = 0 := by
  have h0 := (totE_ok h).2.2.2
  unfold checkE at h0
  split at h0
  · cases h0
  · exact firstW_zero h0
theorem totE_some {l : List Tt} (h : totE l = 0) {t : Tt} (ht : t ∈ l) : t.mon ≠ 0 := by
  have := (wrong_parts (totE_wrong h t ht)).2.2.1
  unfold kindB someB at this
  simp at this
  exact this.1
/-- What is made of lists that are right is right. -/
theorem made_right {l m X : List Tt} (hl : totE l = 0) (hm : totE m = 0) (h : ListOf (sumsOf (l ++ m)) X) (ha : AllMon (sumsOf (l ++ m))) (hu : upT X = true) (h4 : X.length ≤ 400) : totE X = 0 := by
  refine totE_zero h4 (fun t ht => ?_) hu
  have hmade := made_iff.1 ((h.2 t).1 ht)
  obtain ⟨t', ht', e⟩ := sumK_some (k := keyT t) (L := l ++ m) (by rw [hmade.2.1]; exact hmade.2.2)
  have hw : wrongT false t' = 0 := by
    rcases List.mem_append.1 ht' with h | h
    · exact totE_wrong hl t' h
    · exact totE_wrong hm t' h
  obtain ⟨p1, p2, _, p4⟩ := wrong_parts hw
  obtain ⟨e1, e2, e3⟩ := key_parts.1 e
  refine wrong_of ⟨by rw [← e1]; exact p1, by rw [← e2]; exact p2, ?_, by rw [← e3]; exact p4⟩
  have hmon := allMon_iff.1 ha _ hmade.1
  rw [hmade.2.1] at hmon
  unfold kindB someB
  simp [hmade.2.2, hmon]
/-- Less undoes Add. -/
theorem less_add {l m X : List Tt} (hl : totE l = 0) (h : ListOf (sumsOf (l ++ m)) X) (hu : upT X = true) : ListOf (sumsOf (X ++ negL m)) l ∧ AllMon (sumsOf (X ++ negL m)) := by
  have hul := (totE_ok hl).2.2.1
  have key : ∀ k, WfK k → sumK k (X ++ negL m) = sumK k l := fun k hk => by
    rw [sumK_append, sumK_neg, listOf_sum h hu hk, sumK_append]
    omega
  refine ⟨⟨?_, fun t => ?_⟩, ?_⟩
  · rw [List.nodup_iff_pairwise_ne]
    refine (up_pairwise hul).imp fun hab e => ?_
    subst e
    rw [aheadT_irrefl] at hab
    cases hab
  · rw [made_iff]
    constructor
    · intro ht
      have hw := ((totE_ok hl).1 t ht).wf
      exact ⟨hw, by rw [key _ hw]; exact sumK_uniq hul ht, totE_some hl ht⟩
    · rintro ⟨hw, hs, hne⟩
      rw [key _ hw] at hs
      obtain ⟨t', ht', e⟩ := sumK_some (k := keyT t) (L := l) (by rw [hs]; exact hne)
      have := sumK_uniq hul ht'
      rw [e, hs] at this
      rw [same_tt e.symm this]
      exact ht'
  · rw [allMon_iff]
    intro k hk
    rw [key k hk]
    by_cases hz : sumK k l = 0
    · rw [hz]; rfl
    · obtain ⟨t', ht', rfl⟩ := sumK_some hz
      rw [sumK_uniq hul ht']
      obtain ⟨_, _, _, _, h5, h6, _⟩ := (totE_ok hl).1 t' ht'
      exact decide_eq_true ⟨h5, h6⟩
/-- One answer. -/
theorem ListRet.det {g : Ky → Option Int} {w w' : World} {v v' : Value} {er er' : Int} (h : ListRet g w v er) (h' : ListRet g w' v' er') : er = er' ∧ ∃ L x c x' c', v = .slice x L.length c ∧ v' = .slice x' L.length c' ∧ CameO w x L ∧ CameO w' x' L ∧ L.length ≤ 400 := by
  rcases h with ⟨h1, rfl, rfl⟩ | ⟨h1, l, hl, hlen, rfl, rfl⟩ | ⟨h1, l, hl, hlen, hup, rfl, x, c, rfl, hc⟩ <;> rcases h' with ⟨h1', rfl, rfl⟩ | ⟨h1', l', hl', hlen', rfl, rfl⟩ | ⟨h1', l', hl', hlen', hup', rfl, x', c', rfl, hc'⟩
  · exact ⟨rfl, [], none, 0, none, 0, rfl, rfl, .inl rfl, .inl rfl, by simp⟩
  · exact absurd h1' h1
  · exact absurd h1' h1
  · exact absurd h1 h1'
  · exact ⟨rfl, [], none, 0, none, 0, rfl, rfl, .inl rfl, .inl rfl, by simp⟩
  · have := (list_perm hl hl').length_eq
    omega
  · exact absurd h1 h1'
  · have := (list_perm hl hl').length_eq
    omega
  · have e : l = l' := up_unique hup hup' (list_perm hl hl')
    subst e
    exact ⟨rfl, l, x, c, x', c', rfl, rfl, hc, hc', hlen⟩
set_option maxRecDepth 100000 in
set_option maxHeartbeats 1000000 in
theorem sameTotals_yes (x y : Option Addr) (n c d : Nat) (l : List Tt) (w : World) (hx : CameO w x l) (hy : CameO w y l) (hn : l.length = n) (h24 : n ≤ 1000) :
    Calls Try.prog 26 #[.slice x n c, .slice y n d] w fun e w' => e = .returned (.bool true) ∧ Go.RowKit.Below w.heap.size w w' := by
  have HX := Lib.hid hx
  have HY := Lib.hid hy
  clear hx hy
  have e2 : ((n : Int) != (n : Int)) = false := by simp
  go_enter Try.func26, Try.ntmps26
  go_wp2_with fail
  go_loopw [5] (fun i wr => ∃ k : Nat, k ≤ n ∧ i = .int .i64 k ∧ Go.RowKit.Below w.heap.size w wr) (fun i _ => n - (intOf i).toNat)
  case atStart => exact ⟨0, Nat.zero_le _, rfl, Below.refl _ _⟩
  case round =>
    obtain ⟨k, hk, rfl, hbr⟩ := hrel
    have HBW := Lib.hid hbr
    clear hbr
    by_cases hlt : k < n
    · have hlt' : (k : Int) < (n : Int) := by omega
      obtain ⟨b, off, rfl, hcell⟩ := HX.out.open hn (by omega)
      obtain ⟨b', off', rfl, hcell'⟩ := HY.out.open hn (by omega)
      obtain ⟨u0, u1, u2, u3⟩ := hcell wr HBW.out k hlt
      obtain ⟨v0, v1, v2, v3⟩ := hcell' wr HBW.out k hlt
      clear hcell hcell'
      generalize (onth l k).nam = f at *
      generalize (onth l k).per = r at *
      generalize (onth l k).yr = q at *
      generalize (onth l k).mon = m at *
      have n0 : (f.toList != f.toList) = false := by simp
      have n1 : (r != r) = false := by simp
      have n2 : (q != q) = false := by simp
      have n3 : (m != m) = false := by simp
      go_wp2_with fail
      go_quiet (fail)
      go_wp2_with fail
      go_roundw
      case rel => exact ⟨k + 1, by omega, by go_num, obelow_dN HBW.out _⟩
      case measure => simp [intOf]; omega
    · have hnl : decide ((k : Int) < (n : Int)) = false := decide_eq_false (by omega)
      go_wp2_with fail
      go_ret
      exact ⟨rfl, HBW.out⟩
end Go.Proofs.Ytfamnlaignjhkaa
