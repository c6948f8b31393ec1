/-
  Promise F4: the tokens of a line that is printed.
  Promise F4: the tokens of lines that are printed.
  Promise F4: tokens of an expression that is printed: what is met where; the parser's steps.
  Promise F4: an expression that is printed is parsed as it was.
  Promise F4: lines that are printed are parsed as they were.
  Promise F4: the walks of the reference's SameExpr and SameLines at lines that are the same.
-/
import Derived.Test.YtchiifnciijagaaGreatDoorRK
import Derived.Test.YtchiifnciijagaaGreatDoorRT
import Derived.Test.YtchiifnciijagaaGreatDoorJP
import Derived.Test.YtchiifnciijagaaGreatDoorRS
import Derived.Test.YtchiifnciijagaaGreatDoorJD
import Derived.Test.YtchiifnciijagaaGreatDoorJB
import Derived.Lib.QuietBelow
import Derived.BigQuiet
set_option linter.unusedSimpArgs false
namespace Go.Proofs.YtchiifnciijagaaGreatDoor
open Go.RowKit

def lnK (r : Ln) : List Tk := [⟨4, lwW r.kind.toNat, 0, false, 0⟩, ⟨1, r.name, 0, false, 0⟩, sgT [61]] ++ r.ex.tks
theorem lnTx_K (r : Ln) : lnTx r = tksL ((lnK r).map Tk.txt) ++ [59, 10] := by
  unfold lnTx lnK
  rw [List.map_append, tksL_append, ← txt_tks, List.append_assoc]
  rfl
theorem kw_line {t : Nat} (h : 1 ≤ t ∧ t ≤ 4) : OneT ⟨4, lwW t, 0, false, 0⟩ := by
  have : t = 1 ∨ t = 2 ∨ t = 3 ∨ t = 4 := by omega
  rcases this with rfl | rfl | rfl | rfl
  · exact ⟨by kernel_rfl, by decide⟩
  · exact ⟨by kernel_rfl, by decide⟩
  · exact ⟨by kernel_rfl, by decide⟩
  · exact ⟨by kernel_rfl, by decide⟩
theorem line_nmP {r : Ln} (h : lineE r = 0) : NameP r.name := by
  unfold lineE at h
  by_cases h1 : r.kind < 1 ∨ 4 < r.kind
  · rw [if_pos h1] at h; omega
  rw [if_neg h1] at h
  by_cases h2 : NameP r.name
  · exact h2
  · rw [if_neg h2] at h; omega
theorem lnK_one {r : Ln} (h : lineE r = 0) : AllO (lnK r) := by
  obtain ⟨hk, _, hx⟩ := line_okP h
  exact (AllO.cons (kw_line (by omega)) (AllO.cons (one_name (line_nmP h)) (AllO.one sg_eq))).app (tks_one r.ex hx)
/-- A line's tokens, placed. -/
def lnP (a : Nat) (r : Ln) : List Tk := layT a (lnK r) ++ [⟨3, ⟨#[59]⟩, 0, false, ((a + (tksL ((lnK r).map Tk.txt)).length : Nat) : Int)⟩]
theorem toks_line {S : ByteArray} {a : Nat} {L : List Tk} (hT : Toks S a L) {r : Ln} (h : lineE r = 0) {q : List UInt8} (hd : S.data.toList.drop a = lnTx r ++ q) (h1 : blkB (nthB q 0) = false) (h2 : nthB q 0 ≠ 35) : Toks S (a + (lnTx r).length) (L ++ lnP a r) := by
  rw [lnTx_K, List.append_assoc] at hd
  have k1 := toks_list (lnK r) a L ([59, 10] ++ q) hT (lnK_one h) hd (show blkB 59 = false by decide) (show (59 : Int) ≠ 35 by decide)
  have hd' : S.data.toList.drop (a + (tksL ((lnK r).map Tk.txt)).length) = [59, 10] ++ q := by
    rw [← List.drop_drop, hd, List.drop_append, List.drop_of_length_le (Nat.le_refl _)]
    simp
  have k2 := toks_semi k1 hd' h1 h2
  rw [List.append_assoc] at k2
  rw [lnTx_K, List.length_append, ← Nat.add_assoc]
  exact k2
end Go.Proofs.YtchiifnciijagaaGreatDoor
set_option linter.unusedSimpArgs false
namespace Go.Proofs.YtchiifnciijagaaGreatDoor
open Go.RowKit

def ltx : List Ln → List UInt8
  | [] => []
  | r :: q => lnTx r ++ ltx q
def linesP (a : Nat) : List Ln → List Tk
  | [] => []
  | r :: q => lnP a r ++ linesP (a + (lnTx r).length) q
theorem ltx_head {l : List Ln} (h : ∀ r ∈ l, lineE r = 0) : blkB (nthB (ltx l) 0) = false ∧ nthB (ltx l) 0 ≠ 35 := by
  cases l with
  | nil => exact ⟨by decide, by decide⟩
  | cons r q =>
    obtain ⟨hk, _, _⟩ := line_okP (h r (by simp))
    obtain ⟨gf, g0⟩ := kw_line (t := r.kind.toNat) (by omega)
    have gy : (lwW r.kind.toNat).data.toList.length = (lwW r.kind.toNat).size := Array.length_toList
    have e : ltx (r :: q) = (lwW r.kind.toNat).data.toList ++ ([32] ++ (tksL [r.name, ⟨#[61]⟩] ++ (r.ex.txt ++ [59, 10]) ++ ltx q)) := by simp [ltx, lnTx, tksL, tkL]
    have g0' : 0 < (lwW r.kind.toNat).size := g0
    rw [e, nthB_app (by omega), nthB_txt]
    exact first_byte gf
theorem toks_lines {S : ByteArray} : ∀ (l : List Ln) (a : Nat) (L : List Tk), Toks S a L → (∀ r ∈ l, lineE r = 0) → S.data.toList.drop a = ltx l → Toks S (a + (ltx l).length) (L ++ linesP a l)
  | [], a, L, hT, _, _ => by simpa [ltx, linesP] using hT
  | r :: q, a, L, hT, h, hd => by
    have hq : ∀ x ∈ q, lineE x = 0 := fun x hx => h x (by simp [hx])
    obtain ⟨n1, n2⟩ := ltx_head hq
    have k1 := toks_line hT (h r (by simp)) (q := ltx q) hd n1 n2
    have hd' : S.data.toList.drop (a + (lnTx r).length) = ltx q := by
      have hd0 : S.data.toList.drop a = lnTx r ++ ltx q := hd
      rw [← List.drop_drop, hd0, List.drop_append, List.drop_of_length_le (Nat.le_refl _)]
      simp
    have k2 := toks_lines q _ _ k1 hq hd'
    rw [List.append_assoc] at k2
    rw [ltx, List.length_append, ← Nat.add_assoc]
    exact k2
end Go.Proofs.YtchiifnciijagaaGreatDoor
set_option linter.unusedSimpArgs false
namespace Go.Proofs.YtchiifnciijagaaGreatDoor
open Go.RowKit

/-- The same, but for what lies behind the last of the Kids. -/
def Ex.like : Ex → Ex → Prop
  | .no, _ => False
  | .mk k n s m kid, y => y.k = k ∧ y.n = n ∧ y.s = s ∧ y.m = m ∧ ∀ j, j < m → (kid j).like (y.kid j)
/-- Whole: each of the Kids is an expression. -/
def Ex.full : Ex → Prop
  | .no => False
  | .mk _ _ _ m kid => ∀ j, j < m → (kid j).full
theorem KidsAt.full {w : World} : ∀ {x : Ex} {a : Option Addr}, KidsAt w x a → x.full := by
  intro x
  induction x with
  | no => intro a h; exact h.elim
  | mk k n s m kid ih =>
    intro a h
    obtain ⟨_, _, h⟩ := h
    rw [Ex.full]
    intro j hj
    rcases h with h | ⟨b, off, rfl, hB, h⟩
    · omega
    · obtain ⟨aj, cj, h1, h2⟩ := h j hj
      exact ih j h2
theorem like_mk {k n : Int} {s : ByteArray} {m : Nat} {kid : Nat → Ex} {y : Ex} (h1 : y.k = k) (h2 : y.n = n) (h3 : y.s = s) (h4 : y.m = m) (h5 : ∀ j, j < m → (kid j).like (y.kid j)) : (Ex.mk k n s m kid).like y := by
  rw [Ex.like]; exact ⟨h1, h2, h3, h4, h5⟩
theorem full_kid {k n : Int} {s : ByteArray} {m : Nat} {kid : Nat → Ex} (h : (Ex.mk k n s m kid).full) : ∀ j, j < m → (kid j).full := by rw [Ex.full] at h; exact h
/-- The token at a place is this one, wherever it stands. -/
def Tk4 (T : List Tk) (k : Nat) (t : Tk) : Prop := kdT T k = t.k ∧ (tkth T k).txt = t.txt ∧ nmT T k = t.num ∧ (tkth T k).pt = t.pt
def Mt (T : List Tk) : Nat → List Tk → Prop
  | _, [] => True
  | k, t :: r => Tk4 T k t ∧ Mt T (k + 1) r
theorem Mt.app {T : List Tk} : ∀ {a b : List Tk} {k : Nat}, Mt T k (a ++ b) → Mt T k a ∧ Mt T (k + a.length) b
  | [], b, k, h => ⟨trivial, h⟩
  | t :: r, b, k, h => by
    obtain ⟨h1, h2⟩ := Mt.app (a := r) h.2
    refine ⟨⟨h.1, h1⟩, ?_⟩
    rw [List.length_cons, show k + (r.length + 1) = k + 1 + r.length by omega]
    exact h2
theorem Mt.join {T : List Tk} : ∀ {a b : List Tk} {k : Nat}, Mt T k a → Mt T (k + a.length) b → Mt T k (a ++ b)
  | [], b, k, _, h => h
  | t :: r, b, k, h, h' => by
    refine ⟨h.1, Mt.join (a := r) h.2 ?_⟩
    rw [List.length_cons, show k + (r.length + 1) = k + 1 + r.length by omega] at h'
    exact h'
theorem Tk4.is {T : List Tk} {k : Nat} {t : Tk} (h : Tk4 T k t) (l : List UInt8) : isT T k l = (t.txt.data.toList == l) := by unfold isT; rw [h.2.1]
theorem not_if {t : Tk} (h : OneT t) (hk : t.k ≠ 4) : (t.txt.data.toList == [105, 102]) = false := by
  cases hc : (t.txt.data.toList == [105, 102]) with
  | false => rfl
  | true =>
    rw [beq_iff_eq] at hc
    have e : t.txt = (kwT [105, 102]).txt := Mny.ba_ext hc
    have h1 := h.1
    have h2 := kw_if.1
    rw [e, h2] at h1
    injection h1 with h1
    exact absurd h1.symm hk
/-- No sign that goes on an expression. -/
def Nx (T : List Tk) (k : Nat) : Prop := (isT T k [42] = false ∧ isT T k [47] = false) ∧ (isT T k [43] = false ∧ isT T k [45] = false) ∧ isT T k [37] = false
theorem Tk4.nx {T : List Tk} {k : Nat} {t : Tk} (h : Tk4 T k t) (ht : t.txt.data.toList = [41] ∨ t.txt.data.toList = [44] ∨ t.txt.data.toList = [59] ∨ t.txt.data.toList = [60] ∨ t.txt.data.toList = [60, 61] ∨ t.txt.data.toList = [61] ∨ t.txt.data.toList = [116, 104, 101, 110] ∨ t.txt.data.toList = [101, 108, 115, 101]) : Nx T k := by
  unfold Nx
  rw [h.is, h.is, h.is, h.is, h.is]
  rcases ht with ht | ht | ht | ht | ht | ht | ht | ht <;> rw [ht] <;> decide
theorem bprs_ex_no {T : List Tk} {f k : Nat} (h : isT T k [105, 102] = false) : prs T (f + 1) .ex k = prs T f .su k := by
  rw [prs, if_neg (by rw [h]; decide)]
theorem bprs_pr {T : List Tk} {f k : Nat} : prs T (f + 1) .pr k = (prs T f .pa k).bind fun a => prs T f (.pl a.1) a.2 := by rw [prs]
theorem bprs_su {T : List Tk} {f k : Nat} : prs T (f + 1) .su k = (prs T f .pr k).bind fun a => prs T f (.sl a.1) a.2 := by rw [prs]
theorem prs_pl_end {T : List Tk} {f k : Nat} {e : Ex} (h1 : isT T k [42] = false) (h2 : isT T k [47] = false) : prs T (f + 1) (.pl e) k = some (e, k) := by
  rw [prs, if_neg (by rw [h1]; decide), if_neg (by rw [h2]; decide)]
theorem prs_sl_end {T : List Tk} {f k : Nat} {e : Ex} (h1 : isT T k [43] = false) (h2 : isT T k [45] = false) : prs T (f + 1) (.sl e) k = some (e, k) := by
  rw [prs, if_neg (by rw [h1]; decide), if_neg (by rw [h2]; decide)]
theorem up_pr {T : List Tk} {f k k' : Nat} {y : Ex} (ha : prs T (f + 1) .pa k = some (y, k')) (h : isT T k' [42] = false ∧ isT T k' [47] = false) : prs T (f + 2) .pr k = some (y, k') := by
  rw [bprs_pr, ha]
  exact prs_pl_end h.1 h.2
theorem up_su {T : List Tk} {f k k' : Nat} {y : Ex} (ha : prs T (f + 1) .pa k = some (y, k')) (h : Nx T k') : prs T (f + 3) .su k = some (y, k') := by
  rw [bprs_su, up_pr ha h.1]
  exact prs_sl_end h.2.1.1 h.2.1.2
theorem up_add {T : List Tk} {f k k1 k2 : Nat} {y0 y1 : Ex} (ha : prs T (f + 2) .pa k = some (y0, k1)) (h : isT T k1 [42] = false ∧ isT T k1 [47] = false) (hs : isT T k1 [43] = true) (hb : prs T (f + 1) .pa (k1 + 1) = some (y1, k2)) (h2 : Nx T k2) : prs T (f + 4) .su k = some (twoX 7 y0 y1, k2) := by
  rw [bprs_su, up_pr (f := f + 1) ha h]
  show prs T (f + 3) (.sl y0) k1 = _
  rw [prs, if_pos hs, up_pr hb h2.1]
  exact prs_sl_end h2.2.1.1 h2.2.1.2
theorem up_sub {T : List Tk} {f k k1 k2 : Nat} {y0 y1 : Ex} (ha : prs T (f + 2) .pa k = some (y0, k1)) (h : isT T k1 [42] = false ∧ isT T k1 [47] = false) (h3 : isT T k1 [43] = false) (hs : isT T k1 [45] = true) (hb : prs T (f + 1) .pa (k1 + 1) = some (y1, k2)) (h2 : Nx T k2) : prs T (f + 4) .su k = some (twoX 8 y0 y1, k2) := by
  rw [bprs_su, up_pr (f := f + 1) ha h]
  show prs T (f + 3) (.sl y0) k1 = _
  rw [prs, if_neg (by rw [h3]; decide), if_pos hs, up_pr hb h2.1]
  exact prs_sl_end h2.2.1.1 h2.2.1.2
theorem up_mul {T : List Tk} {f k k1 : Nat} {n : Int} {y0 : Ex} (ha : prs T (f + 2) .pa k = some (y0, k1)) (hs : isT T k1 [42] = true) (hn : facT T (k1 + 1) = some n) (h2 : Nx T (k1 + 2)) : prs T (f + 4) .su k = some (oneX 9 n noT y0, k1 + 2) := by
  have e : prs T (f + 3) .pr k = some (oneX 9 n noT y0, k1 + 2) := by
    rw [bprs_pr, ha]
    show prs T (f + 2) (.pl y0) k1 = _
    rw [prs, if_pos hs, hn]
    exact prs_pl_end h2.1.1 h2.1.2
  rw [bprs_su, e]
  exact prs_sl_end h2.2.1.1 h2.2.1.2
theorem up_div {T : List Tk} {f k k1 : Nat} {n : Int} {y0 : Ex} (ha : prs T (f + 2) .pa k = some (y0, k1)) (h3 : isT T k1 [42] = false) (hs : isT T k1 [47] = true) (hn : facT T (k1 + 1) = some n) (h2 : Nx T (k1 + 2)) : prs T (f + 4) .su k = some (oneX 10 n noT y0, k1 + 2) := by
  have e : prs T (f + 3) .pr k = some (oneX 10 n noT y0, k1 + 2) := by
    rw [bprs_pr, ha]
    show prs T (f + 2) (.pl y0) k1 = _
    rw [prs, if_neg (by rw [h3]; decide), if_pos hs, hn]
    exact prs_pl_end h2.1.1 h2.1.2
  rw [bprs_su, e]
  exact prs_sl_end h2.2.1.1 h2.2.1.2
theorem fac_is {T : List Tk} {k : Nat} {n : Int} (h : Tk4 T k ⟨2, iT n, 100 * n, false, 0⟩) (h0 : 1 ≤ n) (h1 : n ≤ 1000000) : facT T k = some n := by
  obtain ⟨a, _, c, d⟩ := h
  have e : 100 * n / 100 = n := by omega
  unfold facT
  rw [if_pos a, d, if_neg (show ¬ (false = true) by decide), c]
  show (if 100 * n / 100 < 1 ∨ 1000000 < 100 * n / 100 then none else some (100 * n / 100)) = some n
  rw [e, if_neg (by omega)]
theorem nam_is {T : List Tk} {k : Nat} {s : ByteArray} (h : Tk4 T k ⟨1, s, 0, false, 0⟩) : namT T k = some s := by
  unfold namT
  rw [if_pos h.1, h.2.1]
theorem tst_is {T : List Tk} {k : Nat} {n : Int} (h : Tk4 T k ⟨3, tsW n.toNat, 0, false, 0⟩) (h0 : 1 ≤ n) (h1 : n ≤ 3) : tstT T k = some n ∧ Nx T k := by
  have hc : n = 1 ∨ n = 2 ∨ n = 3 := by omega
  unfold tstT
  rw [if_pos h.1, h.is, h.is, h.is]
  rcases hc with rfl | rfl | rfl
  · exact ⟨rfl, h.nx (.inr (.inr (.inr (.inl rfl))))⟩
  · exact ⟨rfl, h.nx (.inr (.inr (.inr (.inr (.inl rfl)))))⟩
  · exact ⟨rfl, h.nx (.inr (.inr (.inr (.inr (.inr (.inl rfl))))))⟩
theorem own_noQ {k n : Int} {s : ByteArray} {m : Nat} (h : ownE k n s m = 0) (hk : namedB k = false) : s = noT := by
  unfold ownE at h
  by_cases h1 : k < 1 ∨ 13 < k
  · rw [if_pos h1] at h; omega
  rw [if_neg h1] at h
  by_cases h2 : (m : Int) ≠ kidsOf k
  · rw [if_pos h2] at h; omega
  rw [if_neg h2, if_neg (fun hc => by rw [hk] at hc; exact absurd hc.1 (by decide))] at h
  by_cases h4 : namedB k = false ∧ s.size ≠ 0
  · rw [if_pos h4] at h; omega
  have hs : s.size = 0 := Classical.byContradiction fun hc => h4 ⟨hk, hc⟩
  refine Mny.ba_ext ?_
  have : s.data.toList.length = s.size := Array.length_toList
  exact List.eq_nil_of_length_eq_zero (this.trans hs)
end Go.Proofs.YtchiifnciijagaaGreatDoor
set_option linter.unusedSimpArgs false
namespace Go.Proofs.YtchiifnciijagaaGreatDoor
open Go.RowKit

/-- What the parser makes of an expression's tokens, where an expression or where a part must stand. -/
structure BkP (T : List Tk) (x : Ex) : Prop where
  E : ∀ k f, Mt T k x.tks → Nx T (k + x.tks.length) → 8 * x.tks.length + 4 ≤ f → ∃ y, x.like y ∧ prs T f .ex k = some (y, k + x.tks.length)
  P : ∀ k f, Mt T k (wrapK x.k x.tks) → isT T (k + (wrapK x.k x.tks).length) [37] = false → 8 * (wrapK x.k x.tks).length ≤ f → ∃ y, x.like y ∧ prs T f .pa k = some (y, k + (wrapK x.k x.tks).length)
  hd : ∀ k, Mt T k (wrapK x.k x.tks) → isT T k [105, 102] = false
  ne : 1 ≤ (wrapK x.k x.tks).length
/-- Where it is a part by itself. -/
theorem bk_atom {T : List Tk} {x : Ex} (hw : wrapK x.k x.tks = x.tks) (h1 : 1 ≤ x.tks.length) (hd : ∀ k, Mt T k x.tks → isT T k [105, 102] = false)
    (hA : ∀ k f, Mt T k x.tks → isT T (k + x.tks.length) [37] = false → 8 * x.tks.length ≤ f → ∃ y, x.like y ∧ prs T f .pa k = some (y, k + x.tks.length)) : BkP T x := by
  refine ⟨fun k f hM hN hf => ?_, by rw [hw]; exact hA, by rw [hw]; exact hd, by rw [hw]; exact h1⟩
  obtain ⟨g, rfl⟩ : ∃ g, f = g + 4 := ⟨f - 4, by omega⟩
  obtain ⟨y, hl, hy⟩ := hA k (g + 1) hM hN.2.2 (by omega)
  exact ⟨y, hl, by rw [bprs_ex_no (hd k hM), up_su hy hN]⟩
/-- Where it stands in brackets as a part. -/
theorem bk_wrap {T : List Tk} {x : Ex} (hw : wrapK x.k x.tks = [sgT [40]] ++ (x.tks ++ [sgT [41]]))
    (hE : ∀ k f, Mt T k x.tks → Nx T (k + x.tks.length) → 8 * x.tks.length + 4 ≤ f → ∃ y, x.like y ∧ prs T f .ex k = some (y, k + x.tks.length)) : BkP T x := by
  have hl : ([sgT [40]] ++ (x.tks ++ [sgT [41]])).length = x.tks.length + 2 := by simp
  refine ⟨hE, ?_, ?_, by rw [hw, hl]; omega⟩
  · rw [hw, hl]
    intro k f hM hp hf
    obtain ⟨⟨h0, _⟩, hM⟩ := hM.app
    obtain ⟨hM, h1, _⟩ := hM.app
    obtain ⟨g, rfl⟩ : ∃ g, f = g + 1 := ⟨f - 1, by omega⟩
    obtain ⟨y, hy, he⟩ := hE (k + 1) g hM (h1.nx (.inl rfl)) (by omega)
    refine ⟨y, hy, ?_⟩
    rw [prs, if_neg (by rw [h0.1]; decide), if_neg (by rw [h0.1]; decide), if_neg (by rw [h0.is]; decide), if_neg (by rw [h0.is]; decide), if_neg (by rw [h0.is]; decide), if_neg (by rw [h0.is]; decide), if_neg (by rw [h0.is]; decide), if_pos (by rw [h0.is]; decide), he]
    show (if isT T (k + 1 + x.tks.length) [41] then some (y, k + 1 + x.tks.length + 1) else none) = _
    rw [if_pos (show isT T (k + 1 + x.tks.length) [41] = true from (h1.is [41]).trans (by decide)), show k + 1 + x.tks.length + 1 = k + (x.tks.length + 2) by omega]
  · rw [hw]
    intro k hM
    exact (hM.1.is _).trans (by decide)
theorem wrap_no {k : Int} (t : List Tk) (h : ¬ (k = 7 ∨ k = 8 ∨ k = 9 ∨ k = 10 ∨ k = 13)) : wrapK k t = t := by unfold wrapK; rw [if_neg h]
theorem wrap_yes {k : Int} (t : List Tk) (h : k = 7 ∨ k = 8 ∨ k = 9 ∨ k = 10 ∨ k = 13) : wrapK k t = [sgT [40]] ++ (t ++ [sgT [41]]) := by unfold wrapK; rw [if_pos h]
theorem tks_mk (k n : Int) (s : ByteArray) (m : Nat) (kid : Nat → Ex) : (Ex.mk k n s m kid).tks =
    if k = 1 then [⟨2, mT n, n, true, 0⟩] else if k = 2 then [⟨1, s, 0, false, 0⟩] else if k = 3 then [kwT [121, 101, 97, 114], ⟨1, s, 0, false, 0⟩]
    else if k = 4 then [⟨2, mT n, n, true, 0⟩, sgT [37], kwT [111, 102]] ++ wrapK (kid 0).k (kid 0).tks
    else if k = 5 then [kwT [116, 97, 98, 108, 101], ⟨1, s, 0, false, 0⟩, kwT [111, 102]] ++ wrapK (kid 0).k (kid 0).tks
    else if k = 6 then [sgT [45]] ++ wrapK (kid 0).k (kid 0).tks
    else if k = 7 then wrapK (kid 0).k (kid 0).tks ++ ([sgT [43]] ++ wrapK (kid 1).k (kid 1).tks)
    else if k = 8 then wrapK (kid 0).k (kid 0).tks ++ ([sgT [45]] ++ wrapK (kid 1).k (kid 1).tks)
    else if k = 9 then wrapK (kid 0).k (kid 0).tks ++ [sgT [42], ⟨2, iT n, 100 * n, false, 0⟩]
    else if k = 10 then wrapK (kid 0).k (kid 0).tks ++ [sgT [47], ⟨2, iT n, 100 * n, false, 0⟩]
    else if k = 11 then [kwT [109, 105, 110], sgT [40]] ++ ((kid 0).tks ++ ([sgT [44]] ++ ((kid 1).tks ++ [sgT [41]])))
    else if k = 12 then [kwT [109, 97, 120], sgT [40]] ++ ((kid 0).tks ++ ([sgT [44]] ++ ((kid 1).tks ++ [sgT [41]])))
    else if k = 13 then [kwT [105, 102]] ++ ((wrapK (kid 0).k (kid 0).tks ++ ([⟨3, tsW n.toNat, 0, false, 0⟩] ++ wrapK (kid 1).k (kid 1).tks)) ++ ([kwT [116, 104, 101, 110]] ++ ((kid 2).tks ++ ([kwT [101, 108, 115, 101]] ++ (kid 3).tks))))
    else [] := by rw [Ex.tks]
/-- min, max. -/
theorem bk_both {T : List Tk} {w : List UInt8} {x y : Ex} (hx : BkP T x) (hy : BkP T y) {k f : Nat} (hM : Mt T k ([kwT w, sgT [40]] ++ (x.tks ++ ([sgT [44]] ++ (y.tks ++ [sgT [41]]))))) (hf : 8 * (x.tks.length + y.tks.length + 4) ≤ f + 1) :
    Tk4 T k (kwT w) ∧ isT T (k + 1) [40] = true ∧ ∃ a b, x.like a ∧ y.like b ∧ prs T f .ex (k + 2) = some (a, k + 2 + x.tks.length) ∧ isT T (k + 2 + x.tks.length) [44] = true ∧ prs T f .ex (k + 2 + x.tks.length + 1) = some (b, k + 2 + x.tks.length + 1 + y.tks.length) ∧ isT T (k + 2 + x.tks.length + 1 + y.tks.length) [41] = true := by
  obtain ⟨⟨h0, h1, _⟩, hM⟩ := hM.app
  obtain ⟨hMx, hM⟩ := hM.app
  obtain ⟨⟨h2, _⟩, hM⟩ := hM.app
  obtain ⟨hMy, h3, _⟩ := hM.app
  obtain ⟨a, ha, ea⟩ := hx.E (k + 2) f hMx (h2.nx (.inr (.inl rfl))) (by omega)
  obtain ⟨b, hb, eb⟩ := hy.E (k + 2 + x.tks.length + 1) f hMy (h3.nx (.inl rfl)) (by omega)
  exact ⟨h0, (h1.is _).trans (by decide), a, b, ha, hb, ea, (h2.is _).trans (by decide), eb, (h3.is _).trans (by decide)⟩
theorem like_two {k : Int} {m : Nat} {kid : Nat → Ex} {a b : Ex} (hm : m = 2) (ha : (kid 0).like a) (hb : (kid 1).like b) : (Ex.mk k 0 noT m kid).like (twoX k a b) := by
  subst hm
  refine like_mk rfl rfl rfl rfl fun j hj => ?_
  rcases (show j = 0 ∨ j = 1 by omega) with rfl | rfl
  · exact ha
  · exact hb
theorem like_one {k n : Int} {s : ByteArray} {m : Nat} {kid : Nat → Ex} {a : Ex} (hm : m = 1) (ha : (kid 0).like a) : (Ex.mk k n s m kid).like (oneX k n s a) := by
  subst hm
  refine like_mk rfl rfl rfl rfl fun j hj => ?_
  rcases (show j = 0 by omega) with rfl
  exact ha
theorem like_leaf {k n : Int} {s : ByteArray} {m : Nat} {kid : Nat → Ex} (hm : m = 0) : (Ex.mk k n s m kid).like (leafX k n s) := by
  subst hm
  exact like_mk rfl rfl rfl rfl fun j hj => absurd hj (by omega)
theorem like_four {n : Int} {m : Nat} {kid : Nat → Ex} {a b c d : Ex} (hm : m = 4) (ha : (kid 0).like a) (hb : (kid 1).like b) (hc : (kid 2).like c) (hd : (kid 3).like d) : (Ex.mk 13 n noT m kid).like (fourX n a b c d) := by
  subst hm
  refine like_mk rfl rfl rfl rfl fun j hj => ?_
  rcases (show j = 0 ∨ j = 1 ∨ j = 2 ∨ j = 3 by omega) with rfl | rfl | rfl | rfl
  · exact ha
  · exact hb
  · exact hc
  · exact hd
theorem bk_all {T : List Tk} : ∀ x : Ex, x.full → x.err = 0 → BkP T x := by
  intro x
  induction x with
  | no => intro h; rw [Ex.full] at h; exact h.elim
  | mk k n s m kid ih =>
    intro hfu he
    have he' := he
    rw [err_mk] at he'
    have how : ownE k n s m = 0 := Classical.byContradiction fun hc => by rw [if_neg hc] at he'; exact hc he'
    have hnm := fun hk => one_name (own_nmQ how hk)
    have hno := fun hk => own_noQ how hk
    obtain ⟨⟨hk1, hk13, hm, hn0, hn1⟩, hkd⟩ := mk_okP he
    have hi : ∀ j, j < m → BkP T (kid j) := fun j hj => ih j (full_kid hfu j hj) (hkd j hj)
    have hc : k = 1 ∨ k = 2 ∨ k = 3 ∨ k = 4 ∨ k = 5 ∨ k = 6 ∨ k = 7 ∨ k = 8 ∨ k = 9 ∨ k = 10 ∨ k = 11 ∨ k = 12 ∨ k = 13 := by omega
    clear he he' how ih hkd hfu
    rcases hc with rfl | rfl | rfl | rfl | rfl | rfl | rfl | rfl | rfl | rfl | rfl | rfl | rfl
    · have hm' : m = 0 := by simp [kidsOf] at hm; omega
      simp [leastOf, mostOf] at hn0 hn1
      obtain rfl := hno rfl
      have ex := tks_mk 1 (n) noT m kid
      simp only [reduceIte, Int.reduceEq] at ex
      refine bk_atom (wrap_no _ (by simp only [Ex.k]; omega)) (by rw [ex]; simp) (by rw [ex]; intro k hM; exact (hM.1.is _).trans (not_if (one_money (by omega) (by omega)) (show (2 : Int) ≠ 4 by decide))) ?_
      rw [ex]
      intro k f hM hp hf
      obtain ⟨h0, _⟩ := hM
      obtain ⟨g, rfl⟩ : ∃ g, f = g + 1 := ⟨f - 1, by simp at hf; omega⟩
      refine ⟨leafX 1 n noT, like_leaf hm', ?_⟩
      rw [prs, if_pos h0.1, if_neg (by rw [show k + 1 = k + [(⟨2, mT n, n, true, 0⟩ : Tk)].length from rfl, hp]; decide), h0.2.2.1]
      rfl
    · have hm' : m = 0 := by simp [kidsOf] at hm; omega
      simp [leastOf, mostOf] at hn0 hn1
      obtain rfl : n = 0 := by omega
      have ex := tks_mk 2 (0) s m kid
      simp only [reduceIte, Int.reduceEq] at ex
      refine bk_atom (wrap_no _ (by simp only [Ex.k]; omega)) (by rw [ex]; simp) (by rw [ex]; intro k hM; exact (hM.1.is _).trans (not_if (hnm rfl) (show (1 : Int) ≠ 4 by decide))) ?_
      rw [ex]
      intro k f hM hp hf
      obtain ⟨h0, _⟩ := hM
      obtain ⟨g, rfl⟩ : ∃ g, f = g + 1 := ⟨f - 1, by simp at hf; omega⟩
      refine ⟨leafX 2 0 s, like_leaf hm', ?_⟩
      rw [prs, if_neg (by rw [h0.1]; show ¬ ((1 : Int) = 2); decide), if_pos h0.1, h0.2.1]
      rfl
    · have hm' : m = 0 := by simp [kidsOf] at hm; omega
      simp [leastOf, mostOf] at hn0 hn1
      obtain rfl : n = 0 := by omega
      have ex := tks_mk 3 (0) s m kid
      simp only [reduceIte, Int.reduceEq] at ex
      refine bk_atom (wrap_no _ (by simp only [Ex.k]; omega)) (by rw [ex]; simp) (by rw [ex]; intro k hM; exact (hM.1.is _).trans (by decide)) ?_
      rw [ex]
      intro k f hM hp hf
      obtain ⟨h0, h1, _⟩ := hM
      obtain ⟨g, rfl⟩ : ∃ g, f = g + 1 := ⟨f - 1, by simp at hf; omega⟩
      refine ⟨leafX 3 0 s, like_leaf hm', ?_⟩
      rw [prs]
      rw [if_neg (by rw [h0.1]; decide), if_neg (by rw [h0.1]; decide)]
      rw [if_pos (by rw [h0.is]; decide), nam_is h1]
      rfl
    · have hm' : m = 1 := by simp [kidsOf] at hm; omega
      simp [leastOf, mostOf] at hn0 hn1
      obtain rfl := hno rfl
      have ex := tks_mk 4 (n) noT m kid
      simp only [reduceIte, Int.reduceEq] at ex
      have hl : ([(⟨2, mT n, n, true, 0⟩ : Tk), sgT [37], kwT [111, 102]] ++ wrapK (kid 0).k (kid 0).tks).length = (wrapK (kid 0).k (kid 0).tks).length + 3 := by simp
      refine bk_atom (wrap_no _ (by simp only [Ex.k]; omega)) (by rw [ex, hl]; omega) (by rw [ex]; intro k hM; exact (hM.1.is _).trans (not_if (one_money (by omega) (by omega)) (show (2 : Int) ≠ 4 by decide))) ?_
      rw [ex, hl]
      intro k f hM hp hf
      obtain ⟨⟨h0, h1, h2, _⟩, hM⟩ := hM.app
      obtain ⟨g, rfl⟩ : ∃ g, f = g + 1 := ⟨f - 1, by omega⟩
      obtain ⟨a, ha, ea⟩ := (hi 0 (by omega)).P (k + 3) g hM (by rw [show k + 3 + (wrapK (kid 0).k (kid 0).tks).length = k + ((wrapK (kid 0).k (kid 0).tks).length + 3) by omega]; exact hp) (by omega)
      refine ⟨oneX 4 n noT a, like_one hm' ha, ?_⟩
      rw [prs, if_pos h0.1, if_pos (by rw [h1.is]; decide), h0.2.2.1, if_neg (by show ¬ (1000000 < n); omega), if_pos (by rw [show k + 2 = k + 1 + 1 by omega, h2.is]; decide), ea, show k + 3 + (wrapK (kid 0).k (kid 0).tks).length = k + ((wrapK (kid 0).k (kid 0).tks).length + 3) by omega]
      rfl
    · have hm' : m = 1 := by simp [kidsOf] at hm; omega
      simp [leastOf, mostOf] at hn0 hn1
      obtain rfl : n = 0 := by omega
      have ex := tks_mk 5 (0) s m kid
      simp only [reduceIte, Int.reduceEq] at ex
      have hl : ([kwT [116, 97, 98, 108, 101], (⟨1, s, 0, false, 0⟩ : Tk), kwT [111, 102]] ++ wrapK (kid 0).k (kid 0).tks).length = (wrapK (kid 0).k (kid 0).tks).length + 3 := by simp
      refine bk_atom (wrap_no _ (by simp only [Ex.k]; omega)) (by rw [ex, hl]; omega) (by rw [ex]; intro k hM; exact (hM.1.is _).trans (by decide)) ?_
      rw [ex, hl]
      intro k f hM hp hf
      obtain ⟨⟨h0, h1, h2, _⟩, hM⟩ := hM.app
      obtain ⟨g, rfl⟩ : ∃ g, f = g + 1 := ⟨f - 1, by omega⟩
      obtain ⟨a, ha, ea⟩ := (hi 0 (by omega)).P (k + 3) g hM (by rw [show k + 3 + (wrapK (kid 0).k (kid 0).tks).length = k + ((wrapK (kid 0).k (kid 0).tks).length + 3) by omega]; exact hp) (by omega)
      refine ⟨oneX 5 0 s a, like_one hm' ha, ?_⟩
      rw [prs]
      rw [if_neg (by rw [h0.1]; decide), if_neg (by rw [h0.1]; decide)]
      rw [if_neg (by rw [h0.is]; decide), if_pos (by rw [h0.is]; decide), nam_is h1]
      show (if isT T (k + 2) [111, 102] then (prs T g .pa (k + 3)).bind fun a => some (oneX 5 0 s a.1, a.2) else none) = _
      rw [if_pos (by rw [show k + 2 = k + 1 + 1 by omega, h2.is]; decide), ea, show k + 3 + (wrapK (kid 0).k (kid 0).tks).length = k + ((wrapK (kid 0).k (kid 0).tks).length + 3) by omega]
      rfl
    · have hm' : m = 1 := by simp [kidsOf] at hm; omega
      simp [leastOf, mostOf] at hn0 hn1
      obtain rfl : n = 0 := by omega
      obtain rfl := hno rfl
      have ex := tks_mk 6 (0) noT m kid
      simp only [reduceIte, Int.reduceEq] at ex
      have hl : ([sgT [45]] ++ wrapK (kid 0).k (kid 0).tks).length = (wrapK (kid 0).k (kid 0).tks).length + 1 := by simp
      refine bk_atom (wrap_no _ (by simp only [Ex.k]; omega)) (by rw [ex, hl]; omega) (by rw [ex]; intro k hM; exact (hM.1.is _).trans (by decide)) ?_
      rw [ex, hl]
      intro k f hM hp hf
      obtain ⟨⟨h0, _⟩, hM⟩ := hM.app
      obtain ⟨g, rfl⟩ : ∃ g, f = g + 1 := ⟨f - 1, by omega⟩
      obtain ⟨a, ha, ea⟩ := (hi 0 (by omega)).P (k + 1) g hM (by rw [show k + 1 + (wrapK (kid 0).k (kid 0).tks).length = k + ((wrapK (kid 0).k (kid 0).tks).length + 1) by omega]; exact hp) (by omega)
      refine ⟨oneX 6 0 noT a, like_one hm' ha, ?_⟩
      rw [prs]
      rw [if_neg (by rw [h0.1]; decide), if_neg (by rw [h0.1]; decide)]
      rw [if_neg (by rw [h0.is]; decide), if_neg (by rw [h0.is]; decide), if_pos (by rw [h0.is]; decide), ea, show k + 1 + (wrapK (kid 0).k (kid 0).tks).length = k + ((wrapK (kid 0).k (kid 0).tks).length + 1) by omega]
      rfl
    · have hm' : m = 2 := by simp [kidsOf] at hm; omega
      simp [leastOf, mostOf] at hn0 hn1
      obtain rfl : n = 0 := by omega
      obtain rfl := hno rfl
      have ex := tks_mk 7 (0) noT m kid
      simp only [reduceIte, Int.reduceEq] at ex
      have hl : (wrapK (kid 0).k (kid 0).tks ++ ([sgT [43]] ++ wrapK (kid 1).k (kid 1).tks)).length = (wrapK (kid 0).k (kid 0).tks).length + (wrapK (kid 1).k (kid 1).tks).length + 1 := by simp; omega
      refine bk_wrap (wrap_yes _ (.inl rfl)) ?_
      rw [ex, hl]
      intro k f hM hp hf
      have c0 := hi 0 (by omega)
      have c1 := hi 1 (by omega)
      have n0 := c0.ne
      obtain ⟨hM0, hM⟩ := hM.app
      obtain ⟨⟨h0, _⟩, hM1⟩ := hM.app
      obtain ⟨g, rfl⟩ : ∃ g, f = g + 5 := ⟨f - 5, by omega⟩
      rw [show k + ((wrapK (kid 0).k (kid 0).tks).length + (wrapK (kid 1).k (kid 1).tks).length + 1) = k + (wrapK (kid 0).k (kid 0).tks).length + 1 + (wrapK (kid 1).k (kid 1).tks).length by omega] at hp ⊢
      obtain ⟨a, ha, ea⟩ := c0.P k (g + 2) hM0 ((h0.is _).trans (by decide)) (by omega)
      obtain ⟨b, hb, eb⟩ := c1.P (k + (wrapK (kid 0).k (kid 0).tks).length + 1) (g + 1) hM1 hp.2.2 (by omega)
      exact ⟨twoX 7 a b, like_two hm' ha hb, by rw [bprs_ex_no (c0.hd k hM0)]; exact up_add ea ⟨(h0.is _).trans (by decide), (h0.is _).trans (by decide)⟩ ((h0.is _).trans (by decide)) eb hp⟩
    · have hm' : m = 2 := by simp [kidsOf] at hm; omega
      simp [leastOf, mostOf] at hn0 hn1
      obtain rfl : n = 0 := by omega
      obtain rfl := hno rfl
      have ex := tks_mk 8 (0) noT m kid
      simp only [reduceIte, Int.reduceEq] at ex
      have hl : (wrapK (kid 0).k (kid 0).tks ++ ([sgT [45]] ++ wrapK (kid 1).k (kid 1).tks)).length = (wrapK (kid 0).k (kid 0).tks).length + (wrapK (kid 1).k (kid 1).tks).length + 1 := by simp; omega
      refine bk_wrap (wrap_yes _ (.inr (.inl rfl))) ?_
      rw [ex, hl]
      intro k f hM hp hf
      have c0 := hi 0 (by omega)
      have c1 := hi 1 (by omega)
      have n0 := c0.ne
      obtain ⟨hM0, hM⟩ := hM.app
      obtain ⟨⟨h0, _⟩, hM1⟩ := hM.app
      obtain ⟨g, rfl⟩ : ∃ g, f = g + 5 := ⟨f - 5, by omega⟩
      rw [show k + ((wrapK (kid 0).k (kid 0).tks).length + (wrapK (kid 1).k (kid 1).tks).length + 1) = k + (wrapK (kid 0).k (kid 0).tks).length + 1 + (wrapK (kid 1).k (kid 1).tks).length by omega] at hp ⊢
      obtain ⟨a, ha, ea⟩ := c0.P k (g + 2) hM0 ((h0.is _).trans (by decide)) (by omega)
      obtain ⟨b, hb, eb⟩ := c1.P (k + (wrapK (kid 0).k (kid 0).tks).length + 1) (g + 1) hM1 hp.2.2 (by omega)
      exact ⟨twoX 8 a b, like_two hm' ha hb, by rw [bprs_ex_no (c0.hd k hM0)]; exact up_sub ea ⟨(h0.is _).trans (by decide), (h0.is _).trans (by decide)⟩ ((h0.is _).trans (by decide)) ((h0.is _).trans (by decide)) eb hp⟩
    · have hm' : m = 1 := by simp [kidsOf] at hm; omega
      simp [leastOf, mostOf] at hn0 hn1
      obtain rfl := hno rfl
      have ex := tks_mk 9 (n) noT m kid
      simp only [reduceIte, Int.reduceEq] at ex
      have hl : (wrapK (kid 0).k (kid 0).tks ++ [sgT [42], ⟨2, iT n, 100 * n, false, 0⟩]).length = (wrapK (kid 0).k (kid 0).tks).length + 2 := by simp
      refine bk_wrap (wrap_yes _ (.inr (.inr (.inl rfl)))) ?_
      rw [ex, hl]
      intro k f hM hp hf
      have c0 := hi 0 (by omega)
      obtain ⟨hM0, h0, h1, _⟩ := hM.app
      obtain ⟨g, rfl⟩ : ∃ g, f = g + 5 := ⟨f - 5, by omega⟩
      obtain ⟨a, ha, ea⟩ := c0.P k (g + 2) hM0 ((h0.is _).trans (by decide)) (by omega)
      exact ⟨oneX 9 n noT a, like_one hm' ha, by rw [bprs_ex_no (c0.hd k hM0)]; exact up_mul ea ((h0.is _).trans (by decide)) (fac_is h1 (by omega) (by omega)) hp⟩
    · have hm' : m = 1 := by simp [kidsOf] at hm; omega
      simp [leastOf, mostOf] at hn0 hn1
      obtain rfl := hno rfl
      have ex := tks_mk 10 (n) noT m kid
      simp only [reduceIte, Int.reduceEq] at ex
      have hl : (wrapK (kid 0).k (kid 0).tks ++ [sgT [47], ⟨2, iT n, 100 * n, false, 0⟩]).length = (wrapK (kid 0).k (kid 0).tks).length + 2 := by simp
      refine bk_wrap (wrap_yes _ (.inr (.inr (.inr (.inl rfl))))) ?_
      rw [ex, hl]
      intro k f hM hp hf
      have c0 := hi 0 (by omega)
      obtain ⟨hM0, h0, h1, _⟩ := hM.app
      obtain ⟨g, rfl⟩ : ∃ g, f = g + 5 := ⟨f - 5, by omega⟩
      obtain ⟨a, ha, ea⟩ := c0.P k (g + 2) hM0 ((h0.is _).trans (by decide)) (by omega)
      exact ⟨oneX 10 n noT a, like_one hm' ha, by rw [bprs_ex_no (c0.hd k hM0)]; exact up_div ea ((h0.is _).trans (by decide)) ((h0.is _).trans (by decide)) (fac_is h1 (by omega) (by omega)) hp⟩
    · have hm' : m = 2 := by simp [kidsOf] at hm; omega
      simp [leastOf, mostOf] at hn0 hn1
      obtain rfl : n = 0 := by omega
      obtain rfl := hno rfl
      have ex := tks_mk 11 (0) noT m kid
      simp only [reduceIte, Int.reduceEq] at ex
      have hl : ([kwT [109, 105, 110], sgT [40]] ++ ((kid 0).tks ++ ([sgT [44]] ++ ((kid 1).tks ++ [sgT [41]])))).length = (kid 0).tks.length + (kid 1).tks.length + 4 := by simp; omega
      refine bk_atom (wrap_no _ (by simp only [Ex.k]; omega)) (by rw [ex, hl]; omega) (by rw [ex]; intro k hM; exact (hM.1.is _).trans (by decide)) ?_
      rw [ex, hl]
      intro k f hM hp hf
      obtain ⟨g, rfl⟩ : ∃ g, f = g + 1 := ⟨f - 1, by omega⟩
      obtain ⟨h0, h1, a, b, ha, hb, ea, e2, eb, e3⟩ := bk_both (hi 0 (by omega)) (hi 1 (by omega)) hM (by omega)
      refine ⟨twoX 11 a b, like_two hm' ha hb, ?_⟩
      rw [prs]
      rw [if_neg (by rw [h0.1]; decide), if_neg (by rw [h0.1]; decide)]
      rw [if_neg (by rw [h0.is]; decide), if_neg (by rw [h0.is]; decide), if_neg (by rw [h0.is]; decide), if_pos (by rw [h0.is]; decide), if_pos h1, ea]
      show (if isT T (k + 2 + (kid 0).tks.length) [44] then (prs T g .ex (k + 2 + (kid 0).tks.length + 1)).bind fun b => if isT T b.2 [41] then some (twoX 11 a b.1, b.2 + 1) else none else none) = _
      rw [if_pos e2, eb]
      show (if isT T (k + 2 + (kid 0).tks.length + 1 + (kid 1).tks.length) [41] then some (twoX 11 a b, k + 2 + (kid 0).tks.length + 1 + (kid 1).tks.length + 1) else none) = _
      rw [if_pos e3, show k + 2 + (kid 0).tks.length + 1 + (kid 1).tks.length + 1 = k + ((kid 0).tks.length + (kid 1).tks.length + 4) by omega]
    · have hm' : m = 2 := by simp [kidsOf] at hm; omega
      simp [leastOf, mostOf] at hn0 hn1
      obtain rfl : n = 0 := by omega
      obtain rfl := hno rfl
      have ex := tks_mk 12 (0) noT m kid
      simp only [reduceIte, Int.reduceEq] at ex
      have hl : ([kwT [109, 97, 120], sgT [40]] ++ ((kid 0).tks ++ ([sgT [44]] ++ ((kid 1).tks ++ [sgT [41]])))).length = (kid 0).tks.length + (kid 1).tks.length + 4 := by simp; omega
      refine bk_atom (wrap_no _ (by simp only [Ex.k]; omega)) (by rw [ex, hl]; omega) (by rw [ex]; intro k hM; exact (hM.1.is _).trans (by decide)) ?_
      rw [ex, hl]
      intro k f hM hp hf
      obtain ⟨g, rfl⟩ : ∃ g, f = g + 1 := ⟨f - 1, by omega⟩
      obtain ⟨h0, h1, a, b, ha, hb, ea, e2, eb, e3⟩ := bk_both (hi 0 (by omega)) (hi 1 (by omega)) hM (by omega)
      refine ⟨twoX 12 a b, like_two hm' ha hb, ?_⟩
      rw [prs]
      rw [if_neg (by rw [h0.1]; decide), if_neg (by rw [h0.1]; decide)]
      rw [if_neg (by rw [h0.is]; decide), if_neg (by rw [h0.is]; decide), if_neg (by rw [h0.is]; decide), if_neg (by rw [h0.is]; decide), if_pos (by rw [h0.is]; decide), if_pos h1, ea]
      show (if isT T (k + 2 + (kid 0).tks.length) [44] then (prs T g .ex (k + 2 + (kid 0).tks.length + 1)).bind fun b => if isT T b.2 [41] then some (twoX 12 a b.1, b.2 + 1) else none else none) = _
      rw [if_pos e2, eb]
      show (if isT T (k + 2 + (kid 0).tks.length + 1 + (kid 1).tks.length) [41] then some (twoX 12 a b, k + 2 + (kid 0).tks.length + 1 + (kid 1).tks.length + 1) else none) = _
      rw [if_pos e3, show k + 2 + (kid 0).tks.length + 1 + (kid 1).tks.length + 1 = k + ((kid 0).tks.length + (kid 1).tks.length + 4) by omega]
    · have hm' : m = 4 := by simp [kidsOf] at hm; omega
      simp [leastOf, mostOf] at hn0 hn1
      obtain rfl := hno rfl
      have ex := tks_mk 13 (n) noT m kid
      simp only [reduceIte, Int.reduceEq] at ex
      have hl : ([kwT [105, 102]] ++ ((wrapK (kid 0).k (kid 0).tks ++ ([(⟨3, tsW n.toNat, 0, false, 0⟩ : Tk)] ++ wrapK (kid 1).k (kid 1).tks)) ++ ([kwT [116, 104, 101, 110]] ++ ((kid 2).tks ++ ([kwT [101, 108, 115, 101]] ++ (kid 3).tks))))).length = (wrapK (kid 0).k (kid 0).tks).length + (wrapK (kid 1).k (kid 1).tks).length + (kid 2).tks.length + (kid 3).tks.length + 4 := by simp; omega
      refine bk_wrap (wrap_yes _ (.inr (.inr (.inr (.inr rfl))))) ?_
      rw [ex, hl]
      intro k f hM hp hf
      have c0 := hi 0 (by omega)
      have c1 := hi 1 (by omega)
      have c2 := hi 2 (by omega)
      have c3 := hi 3 (by omega)
      obtain ⟨⟨h0, _⟩, hM⟩ := hM.app
      obtain ⟨hMa, hMb⟩ := hM.app
      obtain ⟨hM0, hMa⟩ := hMa.app
      obtain ⟨⟨h1, _⟩, hM1⟩ := hMa.app
      rw [List.length_append, List.length_append, ← Nat.add_assoc, ← Nat.add_assoc] at hMb
      obtain ⟨⟨h2, _⟩, hMb⟩ := hMb.app
      obtain ⟨hM2, hMb⟩ := hMb.app
      obtain ⟨⟨h3, _⟩, hM3⟩ := hMb.app
      change Tk4 T (k + 1 + (wrapK (kid 0).k (kid 0).tks).length) _ at h1
      change Mt T (k + 1 + (wrapK (kid 0).k (kid 0).tks).length + 1) _ at hM1
      change Tk4 T (k + 1 + (wrapK (kid 0).k (kid 0).tks).length + 1 + (wrapK (kid 1).k (kid 1).tks).length) _ at h2
      change Mt T (k + 1 + (wrapK (kid 0).k (kid 0).tks).length + 1 + (wrapK (kid 1).k (kid 1).tks).length + 1) _ at hM2
      change Tk4 T (k + 1 + (wrapK (kid 0).k (kid 0).tks).length + 1 + (wrapK (kid 1).k (kid 1).tks).length + 1 + (kid 2).tks.length) _ at h3
      change Mt T (k + 1 + (wrapK (kid 0).k (kid 0).tks).length + 1 + (wrapK (kid 1).k (kid 1).tks).length + 1 + (kid 2).tks.length + 1) _ at hM3
      obtain ⟨g, rfl⟩ : ∃ g, f = g + 4 := ⟨f - 4, by omega⟩
      rw [show k + ((wrapK (kid 0).k (kid 0).tks).length + (wrapK (kid 1).k (kid 1).tks).length + (kid 2).tks.length + (kid 3).tks.length + 4) = k + 1 + (wrapK (kid 0).k (kid 0).tks).length + 1 + (wrapK (kid 1).k (kid 1).tks).length + 1 + (kid 2).tks.length + 1 + (kid 3).tks.length by omega] at hp ⊢
      obtain ⟨t1, n1⟩ := tst_is h1 (by omega) (by omega)
      have n2 : Nx T _ := h2.nx (.inr (.inr (.inr (.inr (.inr (.inr (.inl rfl)))))))
      have n3 : Nx T _ := h3.nx (.inr (.inr (.inr (.inr (.inr (.inr (.inr rfl)))))))
      obtain ⟨a, ha, ea⟩ := c0.P (k + 1) (g + 1) hM0 n1.2.2 (by omega)
      obtain ⟨b, hb, eb⟩ := c1.P _ (g + 1) hM1 n2.2.2 (by omega)
      obtain ⟨c, hc, ec⟩ := c2.E _ (g + 3) hM2 n3 (by omega)
      obtain ⟨d, hd, ed⟩ := c3.E _ (g + 3) hM3 hp (by omega)
      refine ⟨fourX n a b c d, like_four hm' ha hb hc hd, ?_⟩
      rw [prs, if_pos (by rw [h0.is]; decide), up_su ea n1]
      show ((tstT T (k + 1 + (wrapK (kid 0).k (kid 0).tks).length)).bind fun t => (prs T (g + 3) .su (k + 1 + (wrapK (kid 0).k (kid 0).tks).length + 1)).bind fun b => if isT T b.2 [116, 104, 101, 110] then (prs T (g + 3) .ex (b.2 + 1)).bind fun c => if isT T c.2 [101, 108, 115, 101] then (prs T (g + 3) .ex (c.2 + 1)).bind fun d => some (fourX t a b.1 c.1 d.1, d.2) else none else none) = _
      rw [t1]
      show ((prs T (g + 3) .su (k + 1 + (wrapK (kid 0).k (kid 0).tks).length + 1)).bind fun b => if isT T b.2 [116, 104, 101, 110] then (prs T (g + 3) .ex (b.2 + 1)).bind fun c => if isT T c.2 [101, 108, 115, 101] then (prs T (g + 3) .ex (c.2 + 1)).bind fun d => some (fourX n a b.1 c.1 d.1, d.2) else none else none) = _
      rw [up_su eb n2]
      show (if isT T _ [116, 104, 101, 110] then (prs T (g + 3) .ex _).bind fun c => if isT T c.2 [101, 108, 115, 101] then (prs T (g + 3) .ex (c.2 + 1)).bind fun d => some (fourX n a b c.1 d.1, d.2) else none else none) = _
      rw [if_pos (by rw [h2.is]; decide), ec]
      show (if isT T _ [101, 108, 115, 101] then (prs T (g + 3) .ex _).bind fun d => some (fourX n a b c d.1, d.2) else none) = _
      rw [if_pos (by rw [h3.is]; decide), ed]
      rfl
end Go.Proofs.YtchiifnciijagaaGreatDoor
set_option linter.unusedSimpArgs false
namespace Go.Proofs.YtchiifnciijagaaGreatDoor
open Go.RowKit

/-- The same tokens, but for where they stand. -/
def SmK : List Tk → List Tk → Prop
  | [], [] => True
  | a :: r, t :: q => (a.k = t.k ∧ a.txt = t.txt ∧ a.num = t.num ∧ a.pt = t.pt) ∧ SmK r q
  | _, _ => False
theorem SmK.app : ∀ {a b c d : List Tk}, SmK a b → SmK c d → SmK (a ++ c) (b ++ d)
  | [], [], _, _, _, h => h
  | _ :: _, _ :: _, _, _, h, h' => ⟨h.1, SmK.app h.2 h'⟩
  | [], _ :: _, _, _, h, _ => h.elim
  | _ :: _, [], _, _, h, _ => h.elim
theorem SmK.len : ∀ {a b : List Tk}, SmK a b → a.length = b.length
  | [], [], _ => rfl
  | _ :: _, _ :: _, h => by rw [List.length_cons, List.length_cons, SmK.len h.2]
  | [], _ :: _, h => h.elim
  | _ :: _, [], h => h.elim
theorem lay_sm : ∀ (ts : List Tk) (a : Nat), SmK (layT a ts) ts
  | [], _ => trivial
  | _ :: r, _ => ⟨⟨rfl, rfl, rfl, rfl⟩, lay_sm r _⟩
theorem tkth_at (P Q : List Tk) (t : Tk) : tkth (P ++ t :: Q) P.length = t := by
  unfold tkth
  rw [List.getD_eq_getElem?_getD, List.getElem?_append_right (Nat.le_refl _)]
  simp
theorem mt_of : ∀ {A ts : List Tk} (P Q : List Tk), SmK A ts → Mt (P ++ (A ++ Q)) P.length ts
  | [], [], _, _, _ => trivial
  | a :: r, t :: q, P, Q, h => by
    refine ⟨?_, ?_⟩
    · unfold Tk4 kdT nmT
      rw [List.cons_append, tkth_at]
      exact h.1
    · have := mt_of (P ++ [a]) Q h.2
      rw [List.append_assoc] at this
      simpa using this
  | [], _ :: _, _, _, h => h.elim
  | _ :: _, [], _, _, h => h.elim
/-- A line's tokens, and all lines' tokens. -/
def lnM (r : Ln) : List Tk := lnK r ++ [sgT [59]]
def lnsM : List Ln → List Tk
  | [] => []
  | r :: q => lnM r ++ lnsM q
theorem lines_sm : ∀ (l : List Ln) (a : Nat), SmK (linesP a l) (lnsM l)
  | [], _ => trivial
  | _ :: q, _ => SmK.app (SmK.app (lay_sm _ _) ⟨⟨rfl, rfl, rfl, rfl⟩, trivial⟩) (lines_sm q _)
/-- The same lines, but for what lies behind the last of the Kids. -/
def likes : List Ln → List Ln → Prop
  | [], [] => True
  | a :: r, b :: q => (b.kind = a.kind ∧ b.name = a.name ∧ a.ex.like b.ex) ∧ likes r q
  | _, _ => False
theorem like_depth : ∀ (x y : Ex), x.like y → y.depth = x.depth := by
  intro x
  induction x with
  | no => intro y h; rw [Ex.like] at h; exact h.elim
  | mk k n s m kid ih =>
    intro y h
    rw [Ex.like] at h
    obtain ⟨_, _, _, h4, h5⟩ := h
    cases y with
    | no =>
      have : m = 0 := h4.symm
      subst this
      simp [Ex.depth, maxN]
    | mk k' n' s' m' kid' =>
      have h4' : m' = m := h4
      subst h4'
      have e : ∀ q, q ≤ m' → maxN (fun j => (kid' j).depth) q = maxN (fun j => (kid j).depth) q := fun q => by
        induction q with
        | zero => intro _; rfl
        | succ q iq =>
          intro hq
          simp only [maxN]
          rw [iq (by omega), ih q (kid' q) (h5 q (by omega))]
      simp only [Ex.depth]
      rw [e m' (Nat.le_refl _)]
theorem lk_is {T : List Tk} {k t : Nat} (h : Tk4 T k ⟨4, lwW t, 0, false, 0⟩) (ht : 1 ≤ t ∧ t ≤ 4) : lkT T k = t := by
  have hc : t = 1 ∨ t = 2 ∨ t = 3 ∨ t = 4 := by omega
  unfold lkT
  rw [h.is, h.is, h.is, h.is]
  rcases hc with rfl | rfl | rfl | rfl <;> rfl
/-- A line. -/
theorem line_back {T : List Tk} {r : Ln} {k : Nat} (h : lineE r = 0) (hf : r.ex.full) (hd : r.ex.depth ≤ 20) (hM : Mt T k (lnM r)) (hT : k + (lnM r).length ≤ T.length) : ∃ q : Ln, lnT T k = some (q, k + (lnM r).length) ∧ q.kind = r.kind ∧ q.name = r.name ∧ r.ex.like q.ex := by
  obtain ⟨hk, _, hx⟩ := line_okP h
  have hl : (lnM r).length = r.ex.tks.length + 4 := by simp [lnM, lnK]
  obtain ⟨hM, h4, _⟩ := hM.app
  obtain ⟨⟨h0, h1, h2, _⟩, hMx⟩ := hM.app
  have hl' : (lnK r).length = r.ex.tks.length + 3 := by simp [lnK]
  rw [hl', show k + (r.ex.tks.length + 3) = k + 3 + r.ex.tks.length by omega] at h4
  obtain ⟨y, hy, ey⟩ := (bk_all (T := T) r.ex hf hx).E (k + 3) (fuelT T) hMx (h4.nx (.inr (.inr (.inl rfl)))) (by unfold fuelT; omega)
  have e0 : lkT T k = r.kind := by rw [lk_is h0 (by omega)]; omega
  refine ⟨⟨r.kind, r.name, y⟩, ?_, rfl, rfl, hy⟩
  unfold lnT
  rw [e0, if_neg (by omega), nam_is h1]
  show (if isT T (k + 2) [61] then (prs T (fuelT T) .ex (k + 3)).bind fun a => if isT T a.2 [59] then if 20 < a.1.depth then none else some ((⟨r.kind, r.name, a.1⟩ : Ln), a.2 + 1) else none else none) = _
  rw [if_pos (show isT T (k + 2) [61] = true from (h2.is _).trans (by decide)), ey]
  show (if isT T (k + 3 + r.ex.tks.length) [59] then if 20 < y.depth then none else some ((⟨r.kind, r.name, y⟩ : Ln), k + 3 + r.ex.tks.length + 1) else none) = _
  rw [if_pos ((h4.is _).trans (by decide)), like_depth _ _ hy, if_neg (by omega), hl, show k + 3 + r.ex.tks.length + 1 = k + (r.ex.tks.length + 4) by omega]
theorem lines_back {T : List Tk} : ∀ (l : List Ln) (c k f : Nat), (∀ r ∈ l, lineE r = 0 ∧ r.ex.full ∧ r.ex.depth ≤ 20) → c + l.length ≤ 40 → Mt T k (lnsM l) → k + (lnsM l).length + 1 = T.length → l.length < f → ∃ l', lnsT T f c k = some l' ∧ likes l l'
  | [], c, k, f, _, _, _, hk, hf => by
    obtain ⟨g, rfl⟩ : ∃ g, f = g + 1 := ⟨f - 1, by omega⟩
    refine ⟨[], ?_, trivial⟩
    rw [lnsT, if_pos (by simp [lnsM] at hk; omega)]
  | r :: q, c, k, f, h, hc, hM, hk, hf => by
    obtain ⟨g, rfl⟩ : ∃ g, f = g + 1 := ⟨f - 1, by omega⟩
    obtain ⟨h1, h2, h3⟩ := h r (by simp)
    obtain ⟨hM1, hM2⟩ := hM.app
    have hlen : (lnsM (r :: q)).length = (lnM r).length + (lnsM q).length := by simp [lnsM]
    have h4 : 1 ≤ (lnM r).length := by simp [lnM]
    simp only [List.length_cons] at hc hf
    obtain ⟨p, e1, e2, e3, e4⟩ := line_back h1 h2 h3 hM1 (by omega)
    obtain ⟨l', e5, e6⟩ := lines_back q (c + 1) (k + (lnM r).length) g (fun x hx => h x (by simp [hx])) (by omega) hM2 (by omega) (by omega)
    refine ⟨p :: l', ?_, ⟨e2, e3, e4⟩, e6⟩
    rw [lnsT, if_neg (by omega), if_neg (by omega), e1]
    show ((lnsT T g (c + 1) (k + (lnM r).length)).bind fun l => some (p :: l)) = _
    rw [e5]
    rfl
theorem ltx_app : ∀ (a b : List Ln), ltx (a ++ b) = ltx a ++ ltx b
  | [], _ => rfl
  | r :: q, b => by rw [List.cons_append, ltx, ltx, ltx_app q b, List.append_assoc]
theorem lnsTx_ltx (l : List Ln) : ∀ j, j ≤ l.length → lnsTx l j = ltx (l.take j)
  | 0, _ => rfl
  | j + 1, hj => by
    rw [lnsTx, lnsTx_ltx l j (by omega), List.take_add_one, ltx_app]
    have : l[j]? = some (lnth l j) := by
      unfold lnth
      rw [List.getD_eq_getElem?_getD, List.getElem?_eq_getElem (by omega)]
      rfl
    rw [this]
    simp [ltx]
theorem lnth_in {l : List Ln} {r : Ln} (h : r ∈ l) : ∃ j, j < l.length ∧ lnth l j = r := by
  obtain ⟨j, hj, e⟩ := List.getElem_of_mem h
  refine ⟨j, hj, ?_⟩
  unfold lnth
  rw [List.getD_eq_getElem?_getD, List.getElem?_eq_getElem hj]
  exact e
theorem maxN_ge {f : Nat → Nat} : ∀ {m j : Nat}, j < m → f j ≤ maxN f m
  | m + 1, j, h => by
    simp only [maxN]
    by_cases e : j = m
    · subst e; omega
    · have := maxN_ge (f := f) (m := m) (j := j) (by omega); omega
/-- WHAT IS PRINTED IS PARSED AS IT WAS. -/
theorem print_parse {l : List Ln} (he : linesE l = 0) (hf : ∀ j, j < l.length → (lnth l j).ex.full) {S : ByteArray} (hS : S.data.toList = lnsTx l l.length) :
    ∃ L l', Toks S S.size L ∧ linesT (L ++ [endK S]) = some l' ∧ likes l l' := by
  obtain ⟨h40, _, hle⟩ := lines_okP he
  have hmd : maxD l l.length ≤ 20 := by
    unfold linesE at he
    by_cases h1 : 40 < l.length ∨ ¬ (sumP l l.length ≤ 4000 ∧ maxD l l.length ≤ 20)
    · rw [if_pos h1] at he; omega
    · omega
  have hall : ∀ r ∈ l, lineE r = 0 ∧ r.ex.full ∧ r.ex.depth ≤ 20 := fun r hr => by
    obtain ⟨j, hj, e⟩ := lnth_in hr
    have := maxN_ge (f := fun j => (lnth l j).ex.depth) hj
    rw [← e]
    exact ⟨hle j hj, hf j hj, Nat.le_trans this hmd⟩
  rw [lnsTx_ltx l l.length (Nat.le_refl _), List.take_length] at hS
  obtain ⟨n1, n2⟩ := ltx_head fun r hr => (hall r hr).1
  have b0 : bt S 0 = nthB (ltx l) 0 := by rw [← hS, nthB_txt]
  have hz : S.size = (ltx l).length := by
    have : S.data.toList.length = S.size := Array.length_toList
    rw [← this, hS]
  have hst : Toks S 0 [] := Toks.start 0 (GapAt.stop 0 0 ⟨Nat.zero_le _, fun j hj => absurd hj (by omega), fun _ => by show blkB (bt S 0) = false; rw [b0]; exact n1⟩ (by show bt S 0 ≠ 35; rw [b0]; exact n2)) (Nat.zero_le _)
  have hT := toks_lines l 0 [] hst (fun r hr => (hall r hr).1) hS
  rw [Nat.zero_add, ← hz, List.nil_append] at hT
  have hM := mt_of [] [endK S] (lines_sm l 0)
  obtain ⟨l', e1, e2⟩ := lines_back (T := linesP 0 l ++ [endK S]) l 0 0 ((linesP 0 l ++ [endK S]).length + 1) hall (by omega) hM (by rw [List.length_append, (lines_sm l 0).len]; simp) (by
    have h1 : ∀ q : List Ln, q.length ≤ (lnsM q).length := fun q => by
      induction q with
      | nil => exact Nat.zero_le _
      | cons r q ih => simp [lnsM, lnM]; omega
    have := h1 l
    rw [List.length_append, (lines_sm l 0).len]
    omega)
  exact ⟨linesP 0 l, l', hT, e1, e2⟩
end Go.Proofs.YtchiifnciijagaaGreatDoor
set_option linter.unusedSimpArgs false
namespace Go.Proofs.YtchiifnciijagaaGreatDoor
open Go.RowKit

set_option maxRecDepth 100000 in
set_option maxHeartbeats 4000000 in
theorem sameExpr_like : ∀ (x y : Ex), x.like y → ∀ (a b : Option Addr) (c d : Nat) (w : World), KidsAt w x a → KidsAt w y b →
    Calls Tryz.prog 29 #[.agg #[.int .i64 x.k, .int .i64 x.n, .string x.s, .slice a x.m c], .agg #[.int .i64 y.k, .int .i64 y.n, .string y.s, .slice b y.m d]] w fun e w' => e = .returned (.bool true) ∧ Below w.heap.size w w' := by
  intro x
  induction x with
  | no => intro y h; rw [Ex.like] at h; exact h.elim
  | mk k n s m kid ih =>
    intro y h a b c d w hx hy
    rw [Ex.like] at h
    obtain ⟨h1, h2, h3, h4, h5⟩ := h
    rw [h1, h2, h3, h4]
    show Calls Tryz.prog 29 #[.agg #[.int .i64 k, .int .i64 n, .string s, .slice a m c], .agg #[.int .i64 k, .int .i64 n, .string s, .slice b m d]] w _
    have HB0 : Hid (Below w.heap.size w ((w.alloc (.cells #[.int .i64 k, .int .i64 n, .string s, .slice a m c] 39)).alloc (.cells #[.int .i64 k, .int .i64 n, .string s, .slice b m d] 39))) := Lib.hid (((Below.refl w.heap.size w).alloc (Nat.le_refl _) _).alloc (by simp) _)
    have HXO := Lib.hid (fun (h0 : 0 < m) => (hx.below HB0.out).open h0)
    have HYO := Lib.hid (fun (h0 : 0 < m) => (hy.below HB0.out).open (by rw [h4]; exact h0))
    rw [h4] at HYO
    have HIH := Lib.hid (fun j hj => ih j (y.kid j) (h5 j hj))
    have hm9 : m ≤ 9223372036854775807 := by have := hx.many; simp only [Ex.m] at this; unfold maxLen at this; omega
    have u3 : ((w.alloc (.cells #[.int .i64 k, .int .i64 n, .string s, .slice a m c] 39)).alloc (.cells #[.int .i64 k, .int .i64 n, .string s, .slice b m d] 39)).cell? ⟨w.heap.size, 3, none⟩ = some (.slice a m c) := by simp
    have v3 : ((w.alloc (.cells #[.int .i64 k, .int .i64 n, .string s, .slice a m c] 39)).alloc (.cells #[.int .i64 k, .int .i64 n, .string s, .slice b m d] 39)).cell? ⟨w.heap.size + 1, 3, none⟩ = some (.slice b m d) := by simp
    have HU := Lib.hid u3
    have HV := Lib.hid v3
    have hnk : (k != k) = false := by simp
    have hnn : (n != n) = false := by simp
    have hnm : ((m : Int) != (m : Int)) = false := by simp
    clear hx hy h1 h2 h3 h4 h5 ih u3 v3
    go_enter Tryz.func29, Tryz.ntmps29
    go_wp2_with fail
    generalize ((w.alloc (.cells #[.int .i64 k, .int .i64 n, .string s, .slice a m c] 39)).alloc (.cells #[.int .i64 k, .int .i64 n, .string s, .slice b m d] 39)) = W at *
    go_loopw [5] (fun i wr => ∃ j : Nat, j ≤ m ∧ i = .int .i64 j ∧ Below W.heap.size W wr) (fun i _ => m - (intOf i).toNat)
    case atStart => exact ⟨0, Nat.zero_le _, rfl, Below.refl _ _⟩
    case round =>
      obtain ⟨j, hj, rfl, hb⟩ := hrel
      have HB := Lib.hid hb
      have u3 := (HB.out.cell (p := ⟨w.heap.size, 3, none⟩) (blt_of_cell HU.out)).trans HU.out
      have v3 := (HB.out.cell (p := ⟨w.heap.size + 1, 3, none⟩) (blt_of_cell HV.out)).trans HV.out
      clear hb
      by_cases hlt : j < m
      · have hlt' : (j : Int) < (m : Int) := by omega
        obtain ⟨b1, o1, rfl, hc1⟩ := HXO.out (by omega)
        obtain ⟨b2, o2, rfl, hc2⟩ := HYO.out (by omega)
        obtain ⟨aj, cj, ⟨p0, p1, p2, p3⟩, hk1⟩ := hc1 wr HB.out j hlt
        obtain ⟨bj, dj, ⟨q0, q1, q2, q3⟩, hk2⟩ := hc2 wr HB.out j hlt
        have p0' : wr.cell? ⟨b1, o1 + j * 4, none⟩ = some (.int .i64 (kid j).k) := p0
        have p1' : wr.cell? ⟨b1, o1 + j * 4 + 1, none⟩ = some (.int .i64 (kid j).n) := p1
        have p2' : wr.cell? ⟨b1, o1 + j * 4 + 2, none⟩ = some (.string (kid j).s) := p2
        have p3' : wr.cell? ⟨b1, o1 + j * 4 + 3, none⟩ = some (.slice aj (kid j).m cj) := p3
        have HKJ := Lib.hid (fun W' (hW : Below wr.heap.size wr W') => HIH.out j hlt aj bj cj dj W' (hk1.below hW) (hk2.below hW))
        clear hc1 hc2 hk1 hk2 p0 p1 p2 p3
        generalize (kid j).k = xk at *
        generalize (kid j).n = xn at *
        generalize (kid j).s = xs at *
        generalize (kid j).m = xm at *
        generalize (y.kid j).k = yk at *
        generalize (y.kid j).n = yn at *
        generalize (y.kid j).s = ys at *
        generalize (y.kid j).m = ym at *
        have k0 := cell_regrown p0'
        have k1 := cell_regrown p1'
        have k2 := cell_regrown p2'
        have k3 := cell_regrown p3'
        have j0 := cell_regrown q0
        have j1 := cell_regrown q1
        have j2 := cell_regrown q2
        have j3 := cell_regrown q3
        have l0 := cell_regrown u3
        have l1 := cell_regrown v3
        go_wp2_with fail
        refine wp_region_quiet_below (by kernel_rfl) (by kernel_rfl) ?_
        repeat (quiet_step (exact Calls.regrown_of (HKJ.out _ (below_regrown _ _ _))))
        refine wpQuiet_nil ?_
        intro _ hw'
        obtain ⟨⟨dq, osq⟩, hw''⟩ := hw'
        subst hw''
        have HB2 := Lib.hid (HB.out.trans ((below_regrown wr dq osq).mono HB.out.size))
        go_wp2_with fail
        go_roundw
        case rel => exact ⟨j + 1, by omega, by go_num, HB2.out⟩
        case measure => simp [intOf]; omega
      · have hltB : decide ((j : Int) < (m : Int)) = false := decide_eq_false (by omega)
        have HBE := Lib.hid (HB0.out.trans (HB.out.mono HB0.out.size))
        go_wp2_with fail
        go_ret
        exact ⟨rfl, HBE.out⟩
theorem likes_at : ∀ {l l' : List Ln}, likes l l' → l'.length = l.length ∧ ∀ j, j < l.length → (lnth l' j).kind = (lnth l j).kind ∧ (lnth l' j).name = (lnth l j).name ∧ (lnth l j).ex.like (lnth l' j).ex
  | [], [], _ => ⟨rfl, fun j hj => absurd hj (by simp)⟩
  | a :: r, b :: q, h => by
    obtain ⟨h1, h2⟩ := likes_at h.2
    refine ⟨by simp [h1], fun j hj => ?_⟩
    cases j with
    | zero => exact h.1
    | succ j => exact h2 j (by simpa using hj)
  | [], _ :: _, h => h.elim
  | _ :: _, [], h => h.elim
set_option maxRecDepth 100000 in
set_option maxHeartbeats 4000000 in
theorem sameLines_likes (x y : Option Addr) (n c d : Nat) (l l' : List Ln) (w : World) (hx : CameL w x l) (hy : CameL w y l') (hl : likes l l') (hn : l.length = n) (hm : n ≤ maxLen) :
    Calls Tryz.prog 14 #[.slice x n c, .slice y n d] w fun e w' => e = .returned (.bool true) ∧ Below w.heap.size w w' := by
  obtain ⟨hl1, hl2⟩ := likes_at hl
  have HX := Lib.hid (fun h0 => hx.open hn h0)
  have HY := Lib.hid (fun h0 => hy.open (hl1.trans hn) h0)
  have HLK := Lib.hid (fun j (hj : j < n) => hl2 j (by omega))
  have hnn : ((n : Int) != (n : Int)) = false := by simp
  have hm9 : n ≤ 9223372036854775807 := by unfold maxLen at hm; omega
  clear hx hy hn hl hl1 hl2 hm
  go_enter Tryz.func14, Tryz.ntmps14
  go_wp2_with fail
  go_loopw [5] (fun i wr => ∃ j : Nat, j ≤ n ∧ i = .int .i64 j ∧ Below w.heap.size w wr) (fun i _ => n - (intOf i).toNat)
  case atStart => exact ⟨0, Nat.zero_le _, rfl, Below.refl _ _⟩
  case round =>
    obtain ⟨j, hj, rfl, hb⟩ := hrel
    have HB := Lib.hid hb
    clear hb
    by_cases hlt : j < n
    · have hlt' : (j : Int) < (n : Int) := by omega
      obtain ⟨b1, o1, rfl, hc1⟩ := HX.out (by omega)
      obtain ⟨b2, o2, rfl, hc2⟩ := HY.out (by omega)
      obtain ⟨aj, cj, ⟨x0, x1, x2, x3, x4, x5⟩, -, hk1⟩ := hc1 wr HB.out j hlt
      obtain ⟨bj, dj, ⟨y0, y1, y2, y3, y4, y5⟩, -, hk2⟩ := hc2 wr HB.out j hlt
      obtain ⟨e1, e2, e3⟩ := HLK.out j hlt
      rw [e1] at y0
      rw [e2] at y1
      have HKJ := Lib.hid (fun W' (hW : Below wr.heap.size wr W') => sameExpr_like _ _ e3 aj bj cj dj W' (hk1.below hW) (hk2.below hW))
      clear hc1 hc2 hk1 hk2 e1 e2 e3
      generalize (lnth l j).kind = lk at *
      generalize (lnth l j).name = ln at *
      generalize (lnth l j).ex.k = xk at *
      generalize (lnth l j).ex.n = xn at *
      generalize (lnth l j).ex.s = xs at *
      generalize (lnth l j).ex.m = xm at *
      generalize (lnth l' j).ex.k = yk at *
      generalize (lnth l' j).ex.n = yn at *
      generalize (lnth l' j).ex.s = ys at *
      generalize (lnth l' j).ex.m = ym at *
      have k0 := cell_regrown x0
      have k1 := cell_regrown x1
      have k2 := cell_regrown x2
      have k3 := cell_regrown x3
      have k4 := cell_regrown x4
      have k5 := cell_regrown x5
      have j0 := cell_regrown y0
      have j1 := cell_regrown y1
      have j2 := cell_regrown y2
      have j3 := cell_regrown y3
      have j4 := cell_regrown y4
      have j5 := cell_regrown y5
      have hnk : (lk != lk) = false := by simp
      go_wp2_with fail
      refine wp_region_quiet_below (by kernel_rfl) (by kernel_rfl) ?_
      repeat (go_big_quiet_step (exact Calls.regrown_of (HKJ.out _ (below_regrown _ _ _))))
      refine wpQuiet_nil ?_
      intro _ hw'
      obtain ⟨⟨dq, osq⟩, hw''⟩ := hw'
      subst hw''
      have HB2 := Lib.hid (HB.out.trans ((below_regrown wr dq osq).mono HB.out.size))
      go_wp2_with fail
      go_roundw
      case rel => exact ⟨j + 1, by omega, by go_num, HB2.out⟩
      case measure => simp [intOf]; omega
    · have hltB : decide ((j : Int) < (n : Int)) = false := decide_eq_false (by omega)
      go_wp2_with fail
      go_ret
      exact ⟨rfl, HB.out⟩
end Go.Proofs.YtchiifnciijagaaGreatDoor
