/-
  Promise M4: the walk of Gather; what must be in any case.
-/
import Derived.Test.YtfamnlaignjhkaaOTogW
namespace Go.Proofs.Ytfamnlaignjhkaa
open Go.RowKit Go.Sort Go.Maps Go.WideMaps

theorem okT_of {b : Bool} {t : Tt} (h : wrongT b t = 0) : OkT t := by
  unfold wrongT at h
  split at h
  · rename_i hc
    obtain ⟨h1, h2, h3⟩ := hc
    split at h
    · rename_i hn
      have p1 := of_decide_eq_true h1
      have p2 := of_decide_eq_true h2
      have p3 := of_decide_eq_true hn
      have p4 : monB t.mon = true := by
        unfold kindB at h3
        cases b
        · simp [someB] at h3; exact h3.2
        · simpa using h3
      have p5 := of_decide_eq_true p4
      exact ⟨p1.1, p1.2, p2.1, p2.2, p5.1, p5.2, p3.2.1⟩
    · cases h
  · cases h
theorem okT_all {b : Bool} {l : List Tt} (h : checkE b l = 0) : (∀ t ∈ l, OkT t) ∧ l.length ≤ 400 := by
  unfold checkE at h
  by_cases h4 : 400 < l.length
  · rw [if_pos h4] at h; cases h
  · rw [if_neg h4] at h
    exact ⟨fun t ht => okT_of (firstW_zero h t ht), by omega⟩
theorem lsAt_one {w : World} {a : Option Addr} {n cap : Nat} {l : List Tt} (h : CameO w a l) (hn : l.length = n) : LsAt (w.alloc (.cells #[.slice a n cap] 22)) w.heap.size [l] := by
  refine ⟨by simp, fun j hj => ?_⟩
  obtain rfl : j = 0 := by simpa using hj
  exact ⟨a, cap, by simp [hn], h.below (obelow_box w _)⟩
/-- What Gather answers. -/
def GathRet (l : List Tt) (w' : World) (v : Value) (er : Int) : Prop := (checkE true l ≠ 0 ∧ er = checkE true l ∧ v = .slice none 0 0) ∨ (checkE true l = 0 ∧ ListRet (sumsOf l) w' v er)
set_option maxRecDepth 100000 in
set_option maxHeartbeats 1000000 in
theorem Gather_any (a : Option Addr) (n cap : Nat) (l : List Tt) (w : World) (hc : CameO w a l) (hn : l.length = n) :
    Calls Try.prog 25 #[.slice a n cap] w fun e w' => ∃ (v : Value) (er : Int), e = .returned (.tuple #[v, .int .i64 er]) ∧ GathRet l w' v er ∧ Go.RowKit.Below w.heap.size w w' := by
  have HC := Lib.hid hc
  have HN := Lib.hid hn
  clear hc hn
  go_enter Try.func25, Try.ntmps25
  go_wp2_with fail
  refine (eachLoose a n cap l _ HC.out HN.out).mono ?_
  rintro e w1 ⟨rfl, hb1⟩
  have HB1 := Lib.hid hb1
  clear hb1
  by_cases h0 : checkE true l = 0
  · have H0 := Lib.hid h0
    rw [h0]
    clear h0
    have HLS := Lib.hid (lsAt_one (cap := cap) (HC.out.below HB1.out) HN.out)
    go_wp2_with fail
    refine (together_any w1.heap.size [l] 1 _ HLS.out rfl (by omega) (by simpa using (okT_all H0.out).1) (by have := (okT_all H0.out).2; simp; omega)).mono ?_
    rintro e w2 ⟨v, er, rfl, hret, hb2⟩
    rw [show ([l] : List (List Tt)).flatten = l by simp] at hret
    have HR := Lib.hid hret
    have hq := (HB1.out.alloc HB1.out.size (.cells #[.slice a n cap] 22))
    have HB2 := Lib.hid (hq.trans (hb2.mono hq.size))
    clear hret hb2 hq
    go_wp2_with fail
    go_ret2
    exact ⟨_, _, rfl, .inr ⟨H0.out, HR.out⟩, HB2.out⟩
  · have H0 := Lib.hid h0
    have h0' : (checkE true l != 0) = true := by simp [h0]
    obtain ⟨c, hcc⟩ : ∃ c, checkE true l = c := ⟨_, rfl⟩
    have HCC := Lib.hid hcc
    rw [hcc] at h0' ⊢
    clear h0 hcc
    go_wp2_with fail
    go_ret2
    exact ⟨_, _, rfl, .inl ⟨H0.out, HCC.out.symm, rfl⟩, HB1.out⟩
theorem list_perm {g : Ky → Option Int} {l l' : List Tt} (h : ListOf g l) (h' : ListOf g l') : l.Perm l' := (List.perm_ext_iff_of_nodup h.1 h'.1).2 fun t => (h.2 t).trans (h'.2 t).symm
theorem onth_get {l : List Tt} {j : Nat} (hj : j < l.length) : onth l j = l[j] := by simp [onth, List.getD_eq_getElem?_getD, hj]
theorem up_pairwise {l : List Tt} (h : upT l = true) : l.Pairwise (fun a b => aheadT a b = true) := by
  rw [List.pairwise_iff_getElem]
  intro i j hi hj hij
  have key : ∀ d, i + d + 1 < l.length → aheadT (onth l i) (onth l (i + d + 1)) = true := by
    intro d
    induction d with
    | zero => intro hd; exact upT_iff.1 h i hd
    | succ d ih => intro hd; exact aheadT_trans (ih (by omega)) (upT_iff.1 h (i + d + 1) hd)
  have := key (j - i - 1) (by omega)
  rw [show i + (j - i - 1) + 1 = j by omega, onth_get hi, onth_get hj] at this
  exact this
theorem up_unique {l l' : List Tt} (h : upT l = true) (h' : upT l' = true) (hp : l.Perm l') : l = l' := by
  refine List.Perm.eq_of_pairwise (fun a b _ _ h1 h2 => ?_) (up_pairwise h) (up_pairwise h') hp
  have := aheadT_trans h1 h2
  rw [aheadT_irrefl] at this
  cases this
def tb0 : Tt := ⟨1, ⟨#[98]⟩, 2000, 2⟩
def ta0 : Tt := ⟨1, ⟨#[97]⟩, 2000, 1⟩
theorem begun_check : checkE true [tb0, ta0] = 0 := by decide +kernel
theorem begun_sums (k : Ky) : sumsOf [tb0, ta0] k = if k = keyT ta0 then some 1 else if k = keyT tb0 then some 2 else none := by
  have hne : ¬ keyT ta0 = keyT tb0 := fun e => by simp [keyT, ta0, tb0] at e
  show putG (putG (fun _ => none) (keyT tb0) _) (keyT ta0) ((stepG (fun _ => none) tb0 (keyT ta0)).getD 0 + ta0.mon) k = _
  have e : stepG (fun _ => none) tb0 (keyT ta0) = none := by unfold stepG putG; rw [if_neg hne]
  rw [e]
  unfold putG
  by_cases h1 : k = keyT ta0
  · rw [if_pos h1, if_pos h1]; rfl
  · rw [if_neg h1, if_neg h1]
    by_cases h2 : k = keyT tb0
    · rw [if_pos h2, if_pos h2]; rfl
    · rw [if_neg h2, if_neg h2]
theorem begun_list : ListOf (sumsOf [tb0, ta0]) [ta0, tb0] := by
  have hne : ¬ keyT ta0 = keyT tb0 := fun e => by simp [keyT, ta0, tb0] at e
  have ok : ∀ t ∈ [tb0, ta0], OkT t := (okT_all begun_check).1
  refine ⟨?_, fun t => ?_⟩
  · refine List.nodup_cons.2 ⟨?_, by simp⟩
    rw [List.mem_singleton]
    exact fun e => hne (by rw [e])
  · unfold MadeBy
    rw [begun_sums]
    constructor
    · intro ht
      simp only [List.mem_cons, List.not_mem_nil, or_false] at ht
      rcases ht with rfl | rfl
      · exact ⟨(ok ta0 (by simp)).wf, by rw [if_pos rfl]; rfl, by decide⟩
      · exact ⟨(ok tb0 (by simp)).wf, by rw [if_neg (fun e => hne e.symm), if_pos rfl]; rfl, by decide⟩
    · rintro ⟨_, h2, _⟩
      obtain ⟨p, s, y, m⟩ := t
      simp only [List.mem_cons, List.not_mem_nil, or_false]
      by_cases h1 : keyT ⟨p, s, y, m⟩ = keyT ta0
      · rw [if_pos h1] at h2
        simp only [keyT, ta0, Ky.mk.injEq] at h1
        obtain ⟨rfl, rfl, rfl⟩ := h1
        simp only [Option.some.injEq] at h2
        subst h2
        exact .inl rfl
      · rw [if_neg h1] at h2
        by_cases h3 : keyT ⟨p, s, y, m⟩ = keyT tb0
        · rw [if_pos h3] at h2
          simp only [keyT, tb0, Ky.mk.injEq] at h3
          obtain ⟨rfl, rfl, rfl⟩ := h3
          simp only [Option.some.injEq] at h2
          subst h2
          exact .inr rfl
        · rw [if_neg h3] at h2
          cases h2
theorem begun_all : AllMon (sumsOf [tb0, ta0]) := by
  intro k x _ hx
  rw [begun_sums] at hx
  split at hx
  · cases hx; rfl
  · split at hx
    · cases hx; rfl
    · cases hx
theorem begun_ret {w' : World} {v : Value} {er : Int} (h : GathRet [tb0, ta0] w' v er) : er = 0 ∧ ∃ b off c, v = .slice (some ⟨b, off, none⟩) 2 c ∧ TtIs w' b off ta0 := by
  rcases h with ⟨h1, _⟩ | ⟨_, h⟩
  · exact absurd begun_check h1
  · rcases h with ⟨h1, _⟩ | ⟨_, l, hl, hlen, _⟩ | ⟨_, l, hl, _, hup, he, x, c, hv, hcm⟩
    · exact absurd begun_all h1
    · have := (list_perm hl begun_list).length_eq
      simp at this
      omega
    · have e : l = [ta0, tb0] := up_unique hup (by decide +kernel) (list_perm hl begun_list)
      subst e
      rcases hcm with h0 | ⟨b, off, rfl, hat⟩
      · cases h0
      · have := hat.2 0 (by simp)
        rw [Nat.zero_mul, Nat.add_zero] at this
        exact ⟨he, b, off, c, hv, this⟩
set_option maxRecDepth 100000 in
set_option maxHeartbeats 1000000 in
theorem totalBegun_any (w : World) : Calls Try.prog 10 #[] w fun e w' => e = .returned (.bool true) ∧ Go.RowKit.Below w.heap.size w w' := by
  have HC : Hid (CameO (w.alloc (.cells #[.int .i64 1, .string ⟨#[98]⟩, .int .i64 2000, .int .i64 2, .int .i64 1, .string ⟨#[97]⟩, .int .i64 2000, .int .i64 1] 50)) (some ⟨w.heap.size, 0, none⟩) [tb0, ta0]) := by
    refine .inr ⟨_, _, rfl, by simp, fun j hj => ?_⟩
    have hj' : j = 0 ∨ j = 1 := by simp at hj; omega
    rcases hj' with rfl | rfl <;> refine ⟨?_, ?_, ?_, ?_⟩ <;> simp [onth, ta0, tb0]
  go_enter Try.func10, Try.ntmps10
  go_wp2_with fail
  refine (Gather_any _ 2 2 [tb0, ta0] _ HC.out rfl).mono ?_
  rintro e w1 ⟨v, er, rfl, hret, hb1⟩
  obtain ⟨rfl, b, off, c, rfl, x0, x1, x2, x3⟩ := begun_ret hret
  have x1' : w1.cell? ⟨b, off + 1, none⟩ = some (.string ⟨#[97]⟩) := x1
  have HB := Lib.hid ((obelow_box w _).trans (hb1.mono (by simp)))
  clear hret hb1 x0 x2 x3 x1
  go_wp2_with fail
  go_ret
  exact ⟨oret_bool (by first | rfl | decide | simp), HB.out⟩
end Go.Proofs.Ytfamnlaignjhkaa
