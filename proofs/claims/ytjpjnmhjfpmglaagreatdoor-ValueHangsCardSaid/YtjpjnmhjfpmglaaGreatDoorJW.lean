/-
  Promise I2: what lines that come later change: nothing of those ahead of them.
  The law's 'choose': which of n things a raw number speaks of.
  The walk of the law ValueAhead.
-/
import Derived.Test.YtjpjnmhjfpmglaaGreatDoorJI
import Derived.Test.YtjpjnmhjfpmglaaGreatDoorJA
import Derived.Test.YtjpjnmhjfpmglaaGreatDoorJV
import Derived.Deep.RegionWith
set_option linter.unusedSimpArgs false
namespace Go.Proofs.YtjpjnmhjfpmglaaGreatDoor
open Go.RowKit Go.Maps Go.WideMaps

theorem data_eq {s t : ByteArray} (h : s.data = t.data) : s = t := by cases s; cases t; simp at h; rw [h]
theorem not_six {l : List Ln} {kn : Kn} {q : Nat} (h : lineOk l kn q = 0 ∨ lineOk l kn q = 5) : valsK l kn q (lnth l q).name = none := by
  unfold lineOk at h
  cases hv : valsK l kn q (lnth l q).name with
  | none => rfl
  | some v => rw [hv] at h; simp at h
theorem vals_no2 {l : List Ln} {kn : Kn} {q : Nat} {s : ByteArray} (h : valsK l kn q s = none) : lastN (fun j => (lnth l j).name) q s = none ∧ lastN (fun j => (anth kn.ins j).name) kn.ins.length s = none := by
  unfold valsK at h
  cases hv : lastN (fun j => (lnth l j).name) q s with
  | none => rw [hv] at h; exact ⟨rfl, h⟩
  | some v => rw [hv] at h; cases h
/-- What a name that is known ahead of a line is: which of all lines, or none. -/
theorem lns_known {l : List Ln} {kn : Kn} (hok : ∀ q, q < l.length → valsK l kn q (lnth l q).name = none) {j : Nat} (hj : j ≤ l.length) {s : ByteArray} (hs : (valsK l kn j s).isSome = true) : lnsG l s = lastN (fun j => (lnth l j).name) j s := by
  unfold lnsG
  cases h1 : lastN (fun j => (lnth l j).name) j s with
  | some p =>
    obtain ⟨hp, hps⟩ := last_is h1
    cases h2 : lastN (fun j => (lnth l j).name) l.length s with
    | none => exact absurd hps (last_no h2 p (by omega))
    | some q =>
      obtain ⟨hq, hqs⟩ := last_is h2
      rcases Nat.lt_trichotomy p q with e | e | e
      · have := (vals_no2 (hok q hq)).1
        exact absurd (hps.trans hqs.symm) (last_no this p e)
      · rw [e]
      · have := (vals_no2 (hok p (by omega))).1
        exact absurd (hqs.trans hps.symm) (last_no this q e)
  | none =>
    cases h2 : lastN (fun j => (lnth l j).name) l.length s with
    | none => rfl
    | some q =>
      exfalso
      obtain ⟨hq, hqs⟩ := last_is h2
      have h3 := (vals_no2 (hok q hq)).2
      rw [data_eq hqs] at h3
      unfold valsK at hs
      rw [h1] at hs
      simp only [h3] at hs
      cases hs
theorem last_congr {f g : Nat → ByteArray} {s : ByteArray} : ∀ {n : Nat}, (∀ j, j < n → f j = g j) → lastN f n s = lastN g n s
  | 0, _ => rfl
  | n + 1, h => by rw [lastN, lastN, h n (by omega), last_congr fun j hj => h j (by omega)]
/-- Two lists of lines that begin with the same c lines. -/
def SameTo (l m : List Ln) (c : Nat) : Prop := c ≤ l.length ∧ c ≤ m.length ∧ ∀ j, j < c → lnth l j = lnth m j
theorem vals_same {l m : List Ln} {c : Nat} (h : ∀ j, j < c → lnth l j = lnth m j) (kn : Kn) {j : Nat} (hj : j ≤ c) (s : ByteArray) : valsK l kn j s = valsK m kn j s := by
  unfold valsK
  rw [last_congr (f := fun j => (lnth l j).name) (g := fun j => (lnth m j).name) fun i hi => by rw [h i (by omega)]]
theorem err_kids {k n : Int} {s : ByteArray} {m : Nat} {kid : Nat → Ex} (h : (Ex.mk k n s m kid).err = 0) : (m : Int) = kidsOf k ∧ (1 ≤ k ∧ k ≤ 13) ∧ ∀ j, j < m → (kid j).err = 0 := by
  have he : (Ex.mk k n s m kid).err = if ownE k n s m = 0 then firstE (fun j => (kid j).err) m else ownE k n s m := by rw [Ex.err]
  rw [he] at h
  split at h
  · rename_i h0
    refine ⟨?_, ?_, fun j hj => firstE_zero h j hj⟩
    · unfold ownE at h0
      (repeat' split at h0) <;> first | omega | (rename_i q _ _ _; simpa using q) | (simp_all; done)
    · unfold ownE at h0
      split at h0
      · omega
      · omega
  · rename_i h0; exact absurd h h0
/-- What an expression comes to hangs on what the names in it are. -/
theorem val_same {l m : List Ln} {kn : Kn} {vs us : List Int} {gv gl gt : ByteArray → Option Nat} (hn : ∀ s, (gv s).isSome = true → namV l kn vs s = namV m kn us s) : ∀ (x : Ex), x.err = 0 → x.all (knowB gv gl gt) = true → x.val l kn vs = x.val m kn us := by
  intro x
  induction x with
  | no => intro _ _; rw [Ex.val, Ex.val]
  | mk k n s c kid ih =>
    intro he ha
    obtain ⟨hc, hk, hkid⟩ := err_kids he
    have hall : knowB gv gl gt k s = true ∧ ∀ j, j < c → (kid j).all (knowB gv gl gt) = true := by
      rw [Ex.all, Bool.and_eq_true] at ha
      exact ⟨ha.1, fun j hj => allN_each ha.2 j hj⟩
    have hv : ∀ j, j < c → (kid j).val l kn vs = (kid j).val m kn us := fun j hj => ih j (hkid j hj) (hall.2 j hj)
    have kc : ∀ {a : Nat}, kidsOf k = (a : Int) → c = a := fun h => by omega
    rw [Ex.val, Ex.val]
    by_cases k1 : k = 1
    · rw [if_pos k1, if_pos k1]
    by_cases k2 : k = 2
    · rw [if_neg k1, if_pos k2, if_neg k1, if_pos k2, hn s (by have := hall.1; unfold knowB at this; rwa [if_pos k2] at this)]
    by_cases k3 : k = 3
    · rw [if_neg k1, if_neg k2, if_pos k3, if_neg k1, if_neg k2, if_pos k3]
    rw [if_neg k1, if_neg k2, if_neg k3, if_neg k1, if_neg k2, if_neg k3]
    by_cases k7 : k = 7 ∨ k = 8 ∨ k = 11 ∨ k = 12
    · have : c = 2 := kc (by unfold kidsOf; rcases k7 with rfl | rfl | rfl | rfl <;> rfl)
      rw [if_pos k7, if_pos k7, hv 0 (by omega), hv 1 (by omega)]
    rw [if_neg k7, if_neg k7]
    by_cases k13 : k = 13
    · have : c = 4 := kc (by unfold kidsOf; subst k13; rfl)
      rw [if_pos k13, if_pos k13, hv 0 (by omega), hv 1 (by omega), hv 2 (by omega), hv 3 (by omega)]
    rw [if_neg k13, if_neg k13]
    have : c = 1 := kc (by
      have : k = 4 ∨ k = 5 ∨ k = 6 ∨ k = 9 ∨ k = 10 := by omega
      unfold kidsOf; rcases this with rfl | rfl | rfl | rfl | rfl <;> rfl)
    rw [hv 0 (by omega)]
theorem linesV_len {l : List Ln} {kn : Kn} : ∀ (n : Nat) (vs : List Int), linesV l kn n = (vs, true) → vs.length = n
  | 0, vs, h => by simp only [linesV, Prod.mk.injEq] at h; rw [← h.1]; rfl
  | n + 1, vs, h => by
    rw [linesV] at h
    split at h
    · cases (Prod.mk.inj h).2
    · rename_i us hu
      split at h
      · obtain ⟨h1, -⟩ := Prod.mk.inj h
        rw [← h1, List.length_append, linesV_len n us hu]
        rfl
      · cases (Prod.mk.inj h).2
/-- What lines come to, up to one of them. -/
theorem linesV_pre {l : List Ln} {kn : Kn} {n : Nat} {vs : List Int} (h : linesV l kn n = (vs, true)) : ∀ c, c ≤ n → linesV l kn c = (vs.take c, true) := by
  induction n generalizing vs with
  | zero =>
    intro c hc
    obtain rfl : c = 0 := by omega
    rw [h, List.take_zero]
    simp only [linesV, Prod.mk.injEq] at h
    rw [← h.1]
  | succ n ih =>
    intro c hc
    by_cases e : c = n + 1
    · subst e
      rw [h, List.take_of_length_le (by rw [linesV_len _ _ h]; exact Nat.le_refl _)]
    · rw [linesV] at h
      split at h
      · cases (Prod.mk.inj h).2
      · rename_i us hu
        split at h
        · obtain ⟨h1, -⟩ := Prod.mk.inj h
          rw [ih hu c (by omega), ← h1, List.take_append_of_le_length (by rw [linesV_len n us hu]; omega)]
        · cases (Prod.mk.inj h).2
theorem linesE_line {l : List Ln} (h : linesE l = 0) {j : Nat} (hj : j < l.length) : (lnth l j).ex.err = 0 ∧ NameP (lnth l j).name ∧ (1 ≤ (lnth l j).kind ∧ (lnth l j).kind ≤ 4) := by
  unfold linesE at h
  split at h
  · cases h
  · have h1 : lineE (lnth l j) = 0 := firstE_zero h j hj
    unfold lineE at h1
    split at h1
    · cases h1
    · split at h1
      · exact ⟨h1, by assumption, by omega⟩
      · cases h1
theorem lnth_tk {l : List Ln} {c j : Nat} (h : j < c) : lnth (l.take c) j = lnth l j := by
  unfold lnth
  rw [List.getD_eq_getElem?_getD, List.getD_eq_getElem?_getD, List.getElem?_take_of_lt h]
theorem linesE_take {l : List Ln} (h : linesE l = 0) {c : Nat} (hc : c ≤ l.length) : linesE (l.take c) = 0 := by
  have hl : (l.take c).length = c := by rw [List.length_take]; omega
  have h0 := h
  unfold linesE at h
  split at h
  · cases h
  · rename_i hn
    have s1 : sumP (l.take c) c = sumP l c := by
      unfold sumP
      have : ∀ k, k ≤ c → sumN (fun j => (lnth (l.take c) j).ex.parts) k = sumN (fun j => (lnth l j).ex.parts) k := by
        intro k hk
        induction k with
        | zero => rfl
        | succ k ih => rw [sumN, sumN, ih (by omega), lnth_tk (by omega)]
      exact this c (Nat.le_refl _)
    have s2 : maxD (l.take c) c = maxD l c := by
      unfold maxD
      have : ∀ k, k ≤ c → maxN (fun j => (lnth (l.take c) j).ex.depth) k = maxN (fun j => (lnth l j).ex.depth) k := by
        intro k hk
        induction k with
        | zero => rfl
        | succ k ih => rw [maxN, maxN, ih (by omega), lnth_tk (by omega)]
      exact this c (Nat.le_refl _)
    have m1 := sumP_le (l := l) hc
    have m2 := maxD_le (l := l) hc
    unfold linesE
    rw [hl, s1, s2, if_neg (by omega)]
    have : ∀ k, k ≤ c → firstE (fun j => lineE (lnth (l.take c) j)) k = 0 := by
      intro k hk
      induction k with
      | zero => rfl
      | succ k ih =>
        rw [firstE_ok (ih (by omega)), lnth_tk (by omega)]
        exact firstE_zero h k (by omega)
    exact this c (Nat.le_refl _)
/-- Lines that are cut off: those that are left are right, but for years of others, and come to what they came to. -/
theorem cut_is {l : List Ln} {kn : Kn} {vs : List Int} (hE : linesE l = 0) (hk : knE kn = 0) (hok : ∀ q, q < l.length → lineOk l kn q = 0) (hv : linesV l kn l.length = (vs, true)) {c : Nat} (hc : c ≤ l.length) {i e : Int} (hb : BindIs (l.take c) kn i e) :
    e = 5 ∨ (i = 0 ∧ e = 0 ∧ linesV (l.take c) kn (l.take c).length = (vs.take c, true)) := by
  have hl : (l.take c).length = c := by rw [List.length_take]; omega
  have hsame : ∀ j, j < c → lnth (l.take c) j = lnth l j := fun j hj => lnth_tk hj
  have h5 : ∀ j, j < c → lineOk (l.take c) kn j = 0 ∨ lineOk (l.take c) kn j = 5 := fun j hj => by
    have h1 := not_six (.inl (hok j (by omega)))
    unfold lineOk
    rw [vals_same hsame kn (Nat.le_of_lt hj), hsame j hj, h1]
    simp only [Option.isSome_none, Bool.false_eq_true, if_false]
    split
    · exact .inl rfl
    · exact .inr rfl
  rcases hb with ⟨h, _⟩ | ⟨_, h, _⟩ | ⟨_, _, ⟨hi, he, hall⟩ | ⟨j, hj, hi, he, h0, _⟩⟩
  · exact absurd (linesE_take hE hc) h
  · exact absurd hk h
  · refine .inr ⟨hi, he, ?_⟩
    rw [hl] at hall ⊢
    have key : ∀ n, n ≤ c → linesV (l.take c) kn n = linesV l kn n := by
      intro n hn
      induction n with
      | zero => rfl
      | succ n ih =>
        have h1 := linesV_pre hv n (by omega)
        have hx : (lnth l n).ex.val (l.take c) kn (vs.take n) = (lnth l n).ex.val l kn (vs.take n) := by
          have ha : (lnth l n).ex.all (knowB (valsK l kn n) (linesG l) (tabsG kn)) = true := by
            have h2 := hok n (by omega)
            unfold lineOk at h2
            rw [not_six (.inl (hok n (by omega)))] at h2
            simp only [Option.isSome_none, Bool.false_eq_true, if_false] at h2
            split at h2
            · assumption
            · cases h2
          refine val_same (fun s hs => ?_) _ (linesE_line hE (by omega)).1 ha
          have q1 := lns_known (l := l) (fun q hq => not_six (.inl (hok q hq))) (show n ≤ l.length by omega) hs
          have q2 := lns_known (l := l.take c) (kn := kn) (j := n) (fun q hq => not_six (h5 q (by omega))) (by omega) (by rw [vals_same hsame kn (by omega)]; exact hs)
          unfold namV
          rw [q1, q2, last_congr (f := fun j => (lnth (l.take c) j).name) (g := fun j => (lnth l j).name) fun j hj => by rw [hsame j (by omega)]]
        rw [linesV, linesV, ih (by omega), h1, hsame n (by omega)]
        dsimp only
        rw [hx]
    rw [key c (Nat.le_refl _)]
    exact linesV_pre hv c hc
  · rw [hl] at hj
    rcases h5 j hj with h | h
    · exact absurd (he.trans h) h0
    · exact .inl (he.trans h)
end Go.Proofs.YtjpjnmhjfpmglaaGreatDoor
namespace Go.Proofs.YtjpjnmhjfpmglaaGreatDoor
open Go.RowKit

/-- Which of n things a raw number speaks of. -/
def chooseI (c n : Int) : Int := (if c < 0 then -(c + 1) else c) % n
theorem choose_any (c n : Int) (w : World) (hc : -9223372036854775808 ≤ c) (hc' : c ≤ 9223372036854775807) (hn : 1 ≤ n) (hn' : n ≤ 1000000000) :
    Calls Tryz.prog 14 #[.int .i64 c, .int .i64 n] w fun e w' => e = .returned (.int .i64 (chooseI c n)) ∧ w' = w := by
  have hn0 : (n == 0) = false := by simp; omega
  by_cases h : c < 0
  · have H : Hid (chooseI c n = (-(c + 1)) % n) := by unfold Hid chooseI; rw [if_pos h]
    have HE : Hid (-((c + 1).tmod n) = (-(c + 1)) % n) := by unfold Hid; rw [← Int.neg_tmod]; exact Int.tmod_eq_emod_of_nonneg (by omega)
    go_enter Tryz.func14, Tryz.ntmps14
    go_wp2
    go_ret
    exact ⟨kret_int (by rw [H.out]; first | done | rw [HE.out]), rfl⟩
  · have H : Hid (chooseI c n = c % n) := by unfold Hid chooseI; rw [if_neg h]
    have HE : Hid (c.tmod n = c % n) := Int.tmod_eq_emod_of_nonneg (by omega)
    go_enter Tryz.func14, Tryz.ntmps14
    go_wp2
    go_ret
    exact ⟨kret_int (by rw [H.out]; first | done | rw [HE.out]), rfl⟩
theorem choose_bd (c n : Int) (hn : 1 ≤ n) : 0 ≤ chooseI c n ∧ chooseI c n < n :=
  ⟨Int.emod_nonneg _ (by omega), Int.emod_lt_of_pos _ (by omega)⟩
end Go.Proofs.YtjpjnmhjfpmglaaGreatDoor
set_option linter.unusedSimpArgs false
namespace Go.Proofs.YtjpjnmhjfpmglaaGreatDoor
open Go.RowKit Go.Maps Go.WideMaps

theorem addr00 (x : Option Addr) : x.map (fun a => a.add 0) = x := by
  cases x with
  | none => rfl
  | some a => simp [Addr.add]
set_option maxRecDepth 100000 in
theorem run_lns (x : Option Addr) (n c k : Nat) (hk : k ≤ n) (hn : n ≤ c) (w : World) :
    (Instr.slice 22 (.slice x n c) none (some (.int .i64 (k : Int))) (some (.int .i64 (k : Int)))).run Tryz.prog w = .ok (.slice x k k) w := by
  obtain ⟨i0, hi, hz0, hz1, hz2⟩ := info_parts info_ln
  have h1 : k ≤ c := by omega
  simp [Instr.slice, Instr.sliceBounds, Instr.sliceBound, asIntOf, run_underlying Tryz.underlying22, sizeOf, typeInfo, hi, h1, addr00]
set_option maxRecDepth 100000 in
theorem run_ints (x : Option Addr) (n c k : Nat) (hk : k ≤ n) (hn : n ≤ c) (w : World) :
    (Instr.slice 31 (.slice x n c) none (some (.int .i64 (k : Int))) none).run Tryz.prog w = .ok (.slice x k c) w := by
  obtain ⟨i0, hi, hz0, hz1, hz2⟩ := info_parts info_i
  have h1 : k ≤ c := by omega
  simp [Instr.slice, Instr.sliceBounds, Instr.sliceBound, asIntOf, run_underlying Tryz.underlying31, sizeOf, typeInfo, hi, h1, addr00]
theorem CameL.cutL {w : World} {a : Option Addr} {l : List Ln} (h : CameL w a l) {c : Nat} (hc : c ≤ l.length) : CameL w a (l.take c) := by
  have hl : (l.take c).length = c := by rw [List.length_take]; omega
  rcases h with h | ⟨b, off, rfl, hB, h⟩
  · exact .inl (by rw [hl]; omega)
  · exact .inr ⟨b, off, rfl, hB, fun j hj => by rw [lnth_tk (by omega)]; exact h j (by omega)⟩
theorem grow_cap {w : World} {B : Nat} {v : Value} {l : List Int} (h : Grow w B v l) : ∃ x c, v = .slice x l.length c ∧ l.length ≤ c := by
  rcases h.2 with ⟨rfl, h2⟩ | ⟨g, c, cur, rfl, _, _, h4, _⟩
  · exact ⟨none, 0, by rw [h2], by omega⟩
  · exact ⟨_, c, rfl, h4⟩
theorem same_cut {w : World} {B1 B2 : Nat} {v2 : Value} {x : Option Addr} {c k : Nat} {vs : List Int} (h1 : Grow w B1 (.slice x vs.length c) vs) (h2 : Grow w B2 v2 (vs.take k)) (hk : k ≤ vs.length) (hl : vs.length ≤ 1000000000) : Calls Tryz.prog 17 #[v2, .slice x k c] w fun e w' => e = .returned (.bool true) ∧ ∃ q, w' = w.drewN q := by
  have hlk : (vs.take k).length = k := by rw [List.length_take]; omega
  by_cases h0 : k = 0
  · subst h0
    obtain ⟨a2, c2, rfl⟩ := grow_shape h2
    rw [hlk]
    refine (same_0 a2 x c2 c w).mono ?_
    rintro e w' ⟨rfl, rfl⟩
    exact ⟨rfl, 0, rfl⟩
  · obtain ⟨g1, c1, e1, _, o1⟩ := h1.own (by omega)
    obtain ⟨g2, c2, rfl, _, o2⟩ := h2.own (by omega)
    injection e1 with e1 _ e3
    subst e1 e3
    have := same_yes g2 0 c2 g1 0 c (vs.take k) w (by omega) o2.at ⟨o1.at.1, fun j hj => by
      have := o1.at.2 j (by omega)
      rw [this]
      unfold nth
      rw [List.getD_eq_getElem?_getD, List.getD_eq_getElem?_getD, List.getElem?_take_of_lt (by omega)]⟩
    rw [hlk] at this ⊢
    exact this
set_option maxRecDepth 100000 in
set_option maxHeartbeats 2000000 in
theorem walk_valueAhead (a : Option Addr) (n cap : Nat) (l : List Ln) (a1 : Option Addr) (n1 c1 : Nat) (a2 : Option Addr) (n2 c2 : Nat) (a3 : Option Addr) (n3 c3 : Nat) (k : Kn) (cut : Int) (wf : (Lit.int .i64 cut).wf = true) {w : World} (hl : CameL w a l) (hn : l.length = n) (hm : n ≤ maxLen) (hcap : n ≤ cap) (_ : cap ≤ maxLen) (hc : CameK w a1 a2 a3 k) (h1 : k.ins.length = n1) (h2 : k.tbs.length = n2) (h3 : k.yrs.length = n3) (hP : PVars w ∧ Shp w) :
    Calls Tryz.prog 6 #[.slice a n cap, .agg #[.slice a1 n1 c1, .slice a2 n2 c2, .slice a3 n3 c3], .int .i64 cut] w fun e w' => e = .returned (.bool true) ∧ Below w.heap.size w w' := by
  obtain ⟨m1, m2⟩ : -9223372036854775808 ≤ cut ∧ cut ≤ 9223372036854775807 := by
    simp only [Lit.wf, Bool.and_eq_true, decide_eq_true_eq] at wf
    exact wf
  have HB0 := Lib.hid (kbelow_box w (.cells #[.slice a1 n1 c1, .slice a2 n2 c2, .slice a3 n3 c3] 30))
  have HK0 := Lib.hid (KAt.made w (.slice a1 n1 c1) (.slice a2 n2 c2) (.slice a3 n3 c3) 30)
  have HL := Lib.hid hl
  have HN := Lib.hid hn
  have HM := Lib.hid hm
  have HC := Lib.hid hc
  have H1 := Lib.hid h1
  have H2 := Lib.hid h2
  have H3 := Lib.hid h3
  have HP0 := Lib.hid (pv_below _ _ hP HB0.out)
  clear wf hl hn hm hc h1 h2 h3 hP
  go_enter Tryz.func6, Tryz.ntmps6
  go_wp2_with fail
  refine (valueBegun_any _ HP0.out.1 HP0.out.2).mono ?_
  rintro e w1 ⟨rfl, hb1⟩
  have HB1 := Lib.hid (HB0.out.trans (hb1.mono HB0.out.size))
  have HK1 := Lib.hid (KAt.below HK0.out hb1)
  have HP1 := Lib.hid (pv_below _ _ HP0.out hb1)
  clear hb1 HK0 HB0 HP0
  obtain ⟨_, x0, x1, x2⟩ := HK1.out
  go_wp2_with fail
  refine (VLines_any a n cap l a1 a2 a3 n1 n2 n3 c1 c2 c3 k _ HP1.out.2 (HL.out.below HB1.out) HN.out HM.out ⟨HC.out.1.below HB1.out, HC.out.2.1.below HB1.out, HC.out.2.2.1.below HB1.out, HC.out.2.2.2⟩ H1.out H2.out H3.out).mono ?_
  intro e w2 hr
  have HB2 := Lib.hid (HB1.out.trans (hr.1.mono HB1.out.size))
  have HK2 := Lib.hid (KAt.below HK1.out hr.1)
  have HP2 := Lib.hid (pv_below _ _ HP1.out hr.1)
  clear x0 x1 x2 HK1 HP1
  obtain ⟨hb2, ⟨i, er, h0, hbi, rfl⟩ | ⟨_, vs, hv, rfl⟩ | ⟨hbi, vs, v, B, hv, _, hg, rfl⟩⟩ := hr
  · have d0 : (er != 0) = true := by simp [h0]
    have d0' : (er == 0) = false := by simp [h0]
    clear h0 hbi hb2
    go_wp2_with fail
    go_ret
    exact ⟨rfl, HB2.out⟩
  · clear hv hb2
    go_wp2_with fail
    go_ret
    exact ⟨rfl, HB2.out⟩
  · obtain ⟨hE, hkn, hok⟩ : linesE l = 0 ∧ knE k = 0 ∧ ∀ q, q < l.length → lineOk l k q = 0 := by
      rcases hbi with ⟨q1, _, q2⟩ | ⟨_, q1, _, q2⟩ | ⟨q1, q2, ⟨_, _, q3⟩ | ⟨_, _, _, _, q, _⟩⟩
      · exact absurd q2.symm q1
      · exact absurd q2.symm q1
      · exact ⟨q1, q2, q3⟩
      · exact absurd rfl q
    have hlv := linesV_len _ _ hv
    obtain ⟨xv, cv, rfl, hcv⟩ := grow_cap hg
    rw [hlv, HN.out] at hg hcv ⊢
    have h40 : n ≤ 40 := by rw [← HN.out]; exact linesE_40 hE
    obtain ⟨z, hz⟩ : ∃ z : Nat, chooseI cut ((n : Int) + 1) = (z : Int) := ⟨(chooseI cut ((n : Int) + 1)).toNat, by have := choose_bd cut ((n : Int) + 1) (by omega); omega⟩
    have hzb : z ≤ n := by have := choose_bd cut ((n : Int) + 1) (by omega); omega
    have HCH := Lib.hid (fun w => choose_any cut ((n : Int) + 1) w m1 m2 (by omega) (by omega))
    rw [hz] at HCH
    have HCUT := Lib.hid (fun i e (hb : BindIs (l.take z) k i e) => cut_is hE hkn hok hv (c := z) (by rw [HN.out]; exact hzb) hb)
    have HG := Lib.hid hg
    have HLV := Lib.hid hlv
    have HTL : Hid ((l.take z).length = z) := by unfold Hid; rw [List.length_take, HN.out]; omega
    have HVL := Lib.hid (VLines_any a z z (l.take z) a1 a2 a3 n1 n2 n3 c1 c2 c3 k w2.drew (pv_below _ _ HP2.out ((Below.refl _ _).drew)).2 ((CameL.cutL HL.out (by rw [HN.out]; exact hzb)).below ((HB2.out).drew)) HTL.out (by unfold maxLen; omega) ⟨HC.out.1.below HB2.out.drew, HC.out.2.1.below HB2.out.drew, HC.out.2.2.1.below HB2.out.drew, HC.out.2.2.2⟩ H1.out H2.out H3.out)
    have hsl := run_lns a n cap z hzb hcap
    clear hbi hb2 hE hkn hok hv hg hlv hz HP2
    go_wp2_with fail
    refine (HCH.out _).mono ?_
    rintro e w3 ⟨rfl, hw⟩
    subst w3
    obtain ⟨_, x0, x1, x2⟩ := HK2.out
    go_wp2_with fail
    go_region_with (go_at_call 10; refine HVL.out.mono ?_; intro e w4 hr; have HR4 := Lib.hid hr; obtain ⟨u2, i2, er2, rfl⟩ := linesR_ret hr; clear hr)
    have HB4 := Lib.hid (HB2.out.drew.trans (HR4.out.1.mono HB2.out.drew.size))
    obtain ⟨hb4, ⟨i, er, h0, hbi, e2⟩ | ⟨hbi, us, hv, e2⟩ | ⟨hbi, us, u, B', hv, _, hg, e2⟩⟩ := HR4.out
    · injection e2 with e2
      injection e2 with e2
      simp at e2
      obtain ⟨rfl, rfl, rfl⟩ := e2
      have h5 : er2 = 5 := by
        rcases HCUT.out _ _ hbi with h | ⟨_, h, _⟩
        · exact h
        · exact absurd h h0
      subst h5
      clear HR4 hb4 hbi h0 x0 x1 x2
      go_wp2_with fail
      go_ret
      exact ⟨rfl, HB4.out⟩
    · exfalso
      rcases HCUT.out _ _ hbi with h | ⟨_, _, h⟩
      · cases h
      · rw [hv] at h
        cases (Prod.mk.inj h).2
    · injection e2 with e2
      injection e2 with e2
      simp at e2
      obtain ⟨rfl, rfl, rfl⟩ := e2
      have hus : us = vs.take z := by
        rcases HCUT.out _ _ hbi with h | ⟨_, _, h⟩
        · cases h
        · rw [hv] at h
          exact (Prod.mk.inj h).1
      subst hus
      have HSM := Lib.hid (same_cut (x := xv) (c := cv) (by rw [HLV.out, HN.out]; exact rvgrow_below HG.out (nfrom_drew hb4)) hg (by rw [HLV.out, HN.out]; exact hzb) (by rw [HLV.out, HN.out]; omega))
      have hsl2 := run_ints xv n cv z hzb hcv
      clear HR4 hb4 hbi hv hg x0 x1 x2
      go_wp2_with fail
      refine HSM.out.mono ?_
      rintro e w5 ⟨rfl, q, rfl⟩
      go_wp2_with fail
      go_ret
      exact ⟨rfl, kbelow_dN HB4.out _⟩
end Go.Proofs.YtjpjnmhjfpmglaaGreatDoor
