/-
  Promise D2: walks of the reference's Holds and HistoryAt, and of the law's seenAt and numberIs.
  Promise D3: where what holds can change; walks of nextFrom, Differs and of the reference's SameAt and DiffersAt.
  Promise D3: walks of Differs and of the reference's SameAt and DiffersAt.
  Promise D3: walks of the reference's SameAt and DiffersAt.
  Promise N3: the reference's Otherwise.
-/
import Derived.Test.YtonceehdmnkffaaGreatDoorJI
import Derived.Test.YtonceehdmnkffaaGreatDoorJO
import Derived.Test.YtonceehdmnkffaaGreatDoorJN
namespace Go.Proofs.YtonceehdmnkffaaGreatDoor.Hst
open Go.RowKit

/-- The place of the row that holds, of the first k; -1: none does. -/
def PlaceIs (l : List Rw) (d s : Int) (k : Nat) (i : Int) : Prop := (i = -1 ∧ best l d s k = ⟨-1, 0, 0, true⟩) ∨ ∃ j : Nat, i = (j : Int) ∧ j < k ∧ best l d s k = rnth l j
theorem rowB_frm {r : Rw} (h : rowB r = true) : 0 ≤ r.frm := by
  unfold rowB at h
  simp only [Bool.and_eq_true] at h
  exact (dayB_iff.1 h.1.1.1).1
theorem PlaceIs.skip {l : List Rw} {d s : Int} {k : Nat} {i : Int} (h : PlaceIs l d s k i) (hn : ¬ ((rnth l k).seen ≤ s ∧ (rnth l k).frm ≤ d ∧ (best l d s k).frm ≤ (rnth l k).frm)) : PlaceIs l d s (k + 1) i := by
  unfold PlaceIs
  rw [best_no hn]
  rcases h with h | ⟨j, h1, h2, h3⟩
  · exact .inl h
  · exact .inr ⟨j, h1, by omega, h3⟩
theorem PlaceIs.take {l : List Rw} {d s : Int} {k : Nat} (h1 : (rnth l k).seen ≤ s) (h2 : (rnth l k).frm ≤ d) (h3 : (best l d s k).frm ≤ (rnth l k).frm) : PlaceIs l d s (k + 1) (k : Int) := by
  unfold PlaceIs
  rw [best_yes h1 h2 h3]
  exact .inr ⟨k, rfl, by omega, rfl⟩

set_option maxRecDepth 100000 in
set_option maxHeartbeats 1000000 in
theorem holds_ref (a : Option Addr) (n cap : Nat) (l : List Rw) (d s : Int) (w : World) (hc : CameR w a l) (hn : l.length = n) (hm : n ≤ 50) (hok : rowsB l = true) :
    Calls Tryz.prog 104 #[.slice a n cap, .int .i64 d, .int .i64 s] w fun e w' => ∃ i : Int, e = .returned (.int .i64 i) ∧ PlaceIs l d s n i ∧ Below w.heap.size w w' := by
  have HO := Lib.hid (fun h0 => hc.open hn h0)
  have HF : Hid (∀ k, k < n → 0 ≤ (rnth l k).frm) := fun k hk => rowB_frm (rowsB_nth hok (by omega))
  clear hc hok
  go_enter Tryz.func104, Tryz.ntmps104
  go_wp2_with fail
  go_loopw [7, 8] (fun b i wr => ∃ (k : Nat) (p : Int), k ≤ n ∧ i = .int .i64 k ∧ b = .int .i64 p ∧ PlaceIs l d s k p ∧ Below w.heap.size w wr) (fun _ i _ => n - (intOf i).toNat)
  case atStart => exact ⟨0, -1, Nat.zero_le _, rfl, rfl, .inl ⟨rfl, rfl⟩, Below.refl _ _⟩
  case round =>
    obtain ⟨k, p, hk, rfl, rfl, hp, hb⟩ := hrel
    have HP := Lib.hid hp
    have HB := Lib.hid hb
    clear hb
    by_cases hlt : k < n
    · have hlt' : (k : Int) < (n : Int) := by omega
      obtain ⟨b, off, rfl, hcell⟩ := HO.out (by omega)
      obtain ⟨x0, x1, x2, x3⟩ := hcell wr HB.out k hlt
      by_cases h1 : (rnth l k).seen ≤ s
      · have h1B : decide (s < (rnth l k).seen) = false := decide_eq_false (by omega)
        by_cases h2 : (rnth l k).frm ≤ d
        · have h2B : decide (d < (rnth l k).frm) = false := decide_eq_false (by omega)
          rcases hp with ⟨rfl, hb0⟩ | ⟨j, rfl, hj, hbj⟩
          · have HT := Lib.hid (PlaceIs.take (l := l) (d := d) (s := s) (k := k) h1 h2 (by rw [hb0]; have := HF.out k hlt; simp; omega))
            clear hcell hb0
            go_wp2_with fail
            go_quiet (fail)
            go_wp2_with fail
            go_roundw
            case rel => exact ⟨k + 1, _, by omega, by go_num, rfl, HT.out, below_dN HB.out _⟩
            case measure => simp [intOf]; omega
          · obtain ⟨y0, _, _, _⟩ := hcell wr HB.out j (by omega)
            have hj' : (j : Int) < (n : Int) := by omega
            by_cases h3 : (rnth l j).frm ≤ (rnth l k).frm
            · have HT := Lib.hid (PlaceIs.take (l := l) (d := d) (s := s) (k := k) h1 h2 (by rw [hbj]; exact h3))
              clear hcell hbj
              go_wp2_with fail
              go_quiet (fail)
              go_wp2_with fail
              go_roundw
              case rel => exact ⟨k + 1, _, by omega, by go_num, rfl, HT.out, below_dN HB.out _⟩
              case measure => simp [intOf]; omega
            · have HT := Lib.hid (HP.out.skip (fun h => h3 (by rw [← hbj]; exact h.2.2)))
              have h3B : decide ((rnth l j).frm ≤ (rnth l k).frm) = false := decide_eq_false h3
              clear hcell hbj
              go_wp2_with fail
              go_quiet (fail)
              go_wp2_with fail
              go_roundw
              case rel => exact ⟨k + 1, _, by omega, by go_num, rfl, HT.out, below_dN HB.out _⟩
              case measure => simp [intOf]; omega
        · have HT := Lib.hid (HP.out.skip (fun h => h2 h.2.1))
          have h2' : d < (rnth l k).frm := by omega
          clear hcell hp
          go_wp2_with fail
          go_roundw
          case rel => exact ⟨k + 1, _, by omega, by go_num, rfl, HT.out, HB.out⟩
          case measure => simp [intOf]; omega
      · have HT := Lib.hid (HP.out.skip (fun h => h1 h.1))
        have h1' : s < (rnth l k).seen := by omega
        clear hcell hp
        go_wp2_with fail
        go_roundw
        case rel => exact ⟨k + 1, _, by omega, by go_num, rfl, HT.out, HB.out⟩
        case measure => simp [intOf]; omega
    · have hkn : k = n := by omega
      subst hkn
      clear hp
      go_wp2_with fail
      go_ret
      exact ⟨_, rfl, HP.out, HB.out⟩

set_option maxRecDepth 100000 in
set_option maxHeartbeats 1000000 in
theorem at_ref (a : Option Addr) (n cap : Nat) (l : List Rw) (d s : Int) (w : World) (hc : CameR w a l) (hn : l.length = n) (hm : n ≤ 50) (hok : rowsB l = true) :
    Calls Tryz.prog 73 #[.slice a n cap, .int .i64 d, .int .i64 s] w fun e w' => e = .returned (.tuple #[.int .i64 (atV (best l d s n)), .bool (atS (best l d s n))]) ∧ Below w.heap.size w w' := by
  have HO := Lib.hid (fun h0 => hc.open hn h0)
  have HH := Lib.hid (holds_ref a n cap l d s w hc hn hm hok)
  clear hc hok
  go_enter Tryz.func73, Tryz.ntmps73
  go_wp2_with fail
  refine HH.out.mono ?_
  rintro e w1 ⟨i, rfl, hp, hb⟩
  have HB := Lib.hid hb
  clear hb HH
  rcases hp with ⟨rfl, hb0⟩ | ⟨j, rfl, hj, hbj⟩
  · have HE := Lib.hid hb0
    clear hb0
    go_wp2_with fail
    refine bodyPost_ret (v := .tuple #[.int .i64 0, .bool false]) (by simp [results, Tryz.results73, go_sem] <;> rfl) rfl ⟨?_, HB.out⟩
    rw [HE.out]
    rfl
  · have HE := Lib.hid hbj
    have hj' : (j : Int) < (n : Int) := by omega
    obtain ⟨b, off, rfl, hcell⟩ := HO.out (by omega)
    obtain ⟨_, _, x2, x3⟩ := hcell w1 HB.out j hj
    clear hcell hbj
    generalize rnth l j = q at *
    obtain ⟨f, e, v, g⟩ := q
    simp only at x2 x3
    cases g
    · go_wp2_with fail
      refine bodyPost_ret (v := .tuple #[.int .i64 v, .bool true]) (by simp [results, Tryz.results73, go_sem] <;> rfl) rfl ⟨?_, HB.out⟩
      rw [HE.out]
      rfl
    · go_wp2_with fail
      refine bodyPost_ret (v := .tuple #[.int .i64 0, .bool false]) (by simp [results, Tryz.results73, go_sem] <;> rfl) rfl ⟨?_, HB.out⟩
      rw [HE.out]
      rfl

/-- The law's own look at days. -/
def dayK (l : List Rw) (q : List Int) (k : Nat) : Int := if histE l ≠ 0 then histE l else if (q.take k).all dayB = true then 0 else 3
theorem take_all {q : List Int} {k : Nat} (hk : k < q.length) : (q.take (k + 1)).all dayB = ((q.take k).all dayB && dayB (nth q k)) := by
  rw [List.take_add_one, List.getElem?_eq_getElem hk]
  have : nth q k = q[k] := by simp [nth, List.getD_eq_getElem?_getD, hk]
  rw [this]
  simp only [Option.toList_some, List.all_append, List.all_cons, List.all_nil, Bool.and_true]
end Go.Proofs.YtonceehdmnkffaaGreatDoor.Hst
namespace Go.Proofs.YtonceehdmnkffaaGreatDoor.Hst
open Go.RowKit

theorem best_still (l : List Rw) (s x y : Int) (hxy : x ≤ y) : ∀ k, k ≤ l.length → (∀ j, j < k → (rnth l j).frm ≤ x ∨ y < (rnth l j).frm) → best l y s k = best l x s k
  | 0, _, _ => rfl
  | k + 1, hk, h => by
    rw [best, best, best_still l s x y hxy k (by omega) (fun j hj => h j (by omega))]
    have hc := h k (by omega)
    by_cases e : (rnth l k).frm ≤ x
    · have e2 : (rnth l k).frm ≤ y := by omega
      simp [e, e2]
    · have e2 : ¬ (rnth l k).frm ≤ y := by omega
      simp [e, e2]
/-- Is something known otherwise at a day? -/
def diffB (l : List Rw) (a b d : Int) : Bool := !(decide (atV (best l d a l.length) = atV (best l d b l.length)) && (atS (best l d a l.length) == atS (best l d b l.length)))
theorem diffB_still {l : List Rw} {a b x y : Int} (hxy : x ≤ y) (h : ∀ j, j < l.length → (rnth l j).frm ≤ x ∨ y < (rnth l j).frm) : diffB l a b y = diffB l a b x := by
  unfold diffB
  rw [best_still l a x y hxy _ (Nat.le_refl _) h, best_still l b x y hxy _ (Nat.le_refl _) h]
/-- The first day that differs. -/
def FDiff (l : List Rw) (a b d : Int) (ok : Bool) : Prop := (ok = true ∧ 0 ≤ d ∧ d ≤ 73048 ∧ diffB l a b d = true ∧ ∀ j, 0 ≤ j → j < d → diffB l a b j = false) ∨ (ok = false ∧ d = 0 ∧ ∀ j, 0 ≤ j → j ≤ 73048 → diffB l a b j = false)
theorem FDiff.unique {l : List Rw} {a b d d' : Int} {o o' : Bool} (h : FDiff l a b d o) (h' : FDiff l a b d' o') : d = d' ∧ o = o' := by
  rcases h with ⟨a1, a2, a3, a4, a5⟩ | ⟨a1, a2, a3⟩ <;> rcases h' with ⟨b1, b2, b3, b4, b5⟩ | ⟨b1, b2, b3⟩
  · refine ⟨?_, by rw [a1, b1]⟩
    by_cases h1 : d < d'
    · rw [b5 d a2 h1] at a4; cases a4
    · by_cases h2 : d' < d
      · rw [a5 d' b2 h2] at b4; cases b4
      · omega
  · rw [b3 d a2 a3] at a4; cases a4
  · rw [a3 d' b2 b3] at b4; cases b4
  · exact ⟨by omega, by rw [a1, b1]⟩
/-- The next day at which one of the first k rows begins. -/
def NextF (l : List Rw) (d : Int) (k : Nat) (p : Int) : Prop := d < p ∧ p ≤ 73049 ∧ (p = 73049 ∨ ∃ j, j < k ∧ (rnth l j).frm = p) ∧ ∀ j, j < k → d < (rnth l j).frm → p ≤ (rnth l j).frm
theorem rowB_frm2 {r : Rw} (h : rowB r = true) : r.frm ≤ 73048 := by
  unfold rowB at h
  simp only [Bool.and_eq_true] at h
  exact (dayB_iff.1 h.1.1.1).2

end Go.Proofs.YtonceehdmnkffaaGreatDoor.Hst
namespace Go.Proofs.YtonceehdmnkffaaGreatDoor.Hst
open Go.RowKit

/-- What Differs answers. -/
def DiffIs (l : List Rw) (a b d : Int) (ok : Bool) (e : Int) : Prop := (dayE l [a, b] ≠ 0 ∧ d = 0 ∧ ok = false ∧ e = dayE l [a, b]) ∨ (dayE l [a, b] = 0 ∧ FDiff l a b d ok ∧ e = 0)
theorem diffB_of {l : List Rw} {a b x v1 v2 : Int} {n : Nat} {s1 s2 : Bool} (hn : l.length = n) (h1 : atV (best l x a n) = v1) (h2 : atS (best l x a n) = s1) (h3 : atV (best l x b n) = v2) (h4 : atS (best l x b n) = s2) : diffB l a b x = !(decide (v1 = v2) && (s1 == s2)) := by
  unfold diffB
  rw [hn, h1, h2, h3, h4]

end Go.Proofs.YtonceehdmnkffaaGreatDoor.Hst
namespace Go.Proofs.YtonceehdmnkffaaGreatDoor.Hst
open Go.RowKit

set_option maxHeartbeats 1000000 in
theorem sameAt_ref (a : Option Addr) (n cap : Nat) (l : List Rw) (x p q : Int) (w : World) (hc : CameR w a l) (hn : l.length = n) (hm : n ≤ 50) (hok : rowsB l = true) :
    Calls Tryz.prog 45 #[.slice a n cap, .int .i64 x, .int .i64 p, .int .i64 x, .int .i64 q] w fun e w' => e = .returned (.bool (!diffB l p q x)) ∧ Below w.heap.size w w' := by
  have HC := Lib.hid hc
  have HN := Lib.hid hn
  have HROW := Lib.hid hok
  clear hc hn hok
  go_enter Tryz.func45, Tryz.ntmps45
  go_wp2_with fail
  refine (at_ref a n cap l x p w HC.out HN.out hm HROW.out).mono ?_
  rintro e w2 ⟨rfl, hb2⟩
  have HB2 := Lib.hid hb2
  clear hb2
  go_wp2_with fail
  refine (at_ref a n cap l x q w2 (HC.out.below HB2.out) HN.out hm HROW.out).mono ?_
  rintro e w3 ⟨rfl, hb3⟩
  have HB3 := Lib.hid (HB2.out.trans (hb3.mono HB2.out.size))
  clear hb3
  generalize hv1 : atV (best l x p n) = v1 at *
  generalize hs1 : atS (best l x p n) = s1 at *
  generalize hv2 : atV (best l x q n) = v2 at *
  generalize hs2 : atS (best l x q n) = s2 at *
  have HD := Lib.hid (diffB_of HN.out hv1 hs1 hv2 hs2)
  clear hv1 hs1 hv2 hs2
  by_cases e : v1 = v2
  · subst e
    go_wp2_with fail
    go_ret
    exact ⟨cret_bool (by rw [HD.out]; simp), HB3.out⟩
  · have eB : decide (v1 = v2) = false := decide_eq_false e
    go_wp2_with fail
    go_ret
    exact ⟨cret_bool (by rw [HD.out]; simp [e]), HB3.out⟩

/-- The days that the reference asks, of the first k rounds. -/
def Cand (l : List Rw) (k : Nat) (c : Int) : Prop := (0 < k ∧ c = 0) ∨ ∃ j, j + 1 < k ∧ (rnth l j).frm = c
/-- The least of them that differs; -1: none does. -/
def MinD (l : List Rw) (p q : Int) (k : Nat) (m : Int) : Prop := (m = -1 ∧ ∀ c, Cand l k c → diffB l p q c = false) ∨ (0 ≤ m ∧ Cand l k m ∧ diffB l p q m = true ∧ ∀ c, Cand l k c → diffB l p q c = true → m ≤ c)
/-- The k-th of them. -/
def candAt (l : List Rw) (k : Nat) : Int := if k = 0 then 0 else (rnth l (k - 1)).frm
theorem cand_step {l : List Rw} {k : Nat} {c : Int} : Cand l (k + 1) c ↔ Cand l k c ∨ c = candAt l k := by
  unfold Cand candAt
  constructor
  · rintro (⟨_, rfl⟩ | ⟨j, hj, rfl⟩)
    · by_cases e : k = 0
      · right; simp [e]
      · left; left; exact ⟨by omega, rfl⟩
    · by_cases e : j + 1 < k
      · left; right; exact ⟨j, e, rfl⟩
      · right
        have : k - 1 = j := by omega
        rw [if_neg (by omega), this]
  · rintro ((⟨h, rfl⟩ | ⟨j, hj, rfl⟩) | rfl)
    · left; exact ⟨by omega, rfl⟩
    · right; exact ⟨j, by omega, rfl⟩
    · by_cases e : k = 0
      · left; simp [e]
      · right
        rw [if_neg e]
        exact ⟨k - 1, by omega, rfl⟩
theorem MinD.same {l : List Rw} {p q : Int} {k : Nat} {m : Int} (h : MinD l p q k m) (hd : diffB l p q (candAt l k) = false) : MinD l p q (k + 1) m := by
  rcases h with ⟨h1, h2⟩ | ⟨h1, h2, h3, h4⟩
  · left
    refine ⟨h1, fun c hc => ?_⟩
    rcases cand_step.1 hc with hc | rfl
    · exact h2 c hc
    · exact hd
  · right
    refine ⟨h1, cand_step.2 (.inl h2), h3, fun c hc hd' => ?_⟩
    rcases cand_step.1 hc with hc | rfl
    · exact h4 c hc hd'
    · rw [hd] at hd'; cases hd'
theorem MinD.keep {l : List Rw} {p q : Int} {k : Nat} {m : Int} (h : MinD l p q k m) (hm : 0 ≤ m) (hle : m ≤ candAt l k) : MinD l p q (k + 1) m := by
  rcases h with ⟨h1, h2⟩ | ⟨h1, h2, h3, h4⟩
  · omega
  · right
    refine ⟨h1, cand_step.2 (.inl h2), h3, fun c hc hd' => ?_⟩
    rcases cand_step.1 hc with hc | rfl
    · exact h4 c hc hd'
    · exact hle
theorem MinD.take {l : List Rw} {p q : Int} {k : Nat} {m : Int} (h : MinD l p q k m) (h0 : 0 ≤ candAt l k) (hd : diffB l p q (candAt l k) = true) (hle : m < 0 ∨ candAt l k < m) : MinD l p q (k + 1) (candAt l k) := by
  right
  refine ⟨h0, cand_step.2 (.inr rfl), hd, fun c hc hd' => ?_⟩
  rcases cand_step.1 hc with hc | rfl
  · rcases h with ⟨h1, h2⟩ | ⟨h1, h2, h3, h4⟩
    · rw [h2 c hc] at hd'; cases hd'
    · have := h4 c hc hd'; omega
  · exact Int.le_refl _
/-- What the reference finds is the first day that differs. -/
theorem MinD.first {l : List Rw} {p q m : Int} (h : MinD l p q (l.length + 1) m) (hok : rowsB l = true) : (m = -1 ∧ FDiff l p q 0 false) ∨ (0 ≤ m ∧ FDiff l p q m true) := by
  have key : ∀ x : Nat, (∀ c, Cand l (l.length + 1) c → c ≤ x → diffB l p q c = false) → ∀ j : Nat, j ≤ x → diffB l p q (j : Int) = false := by
    intro x hx j
    induction j with
    | zero => intro _; exact hx 0 (.inl ⟨by omega, rfl⟩) (by omega)
    | succ j ih =>
      intro hj
      by_cases e : ∃ i, i < l.length ∧ (rnth l i).frm = ((j + 1 : Nat) : Int)
      · obtain ⟨i, hi, he⟩ := e
        exact hx _ (.inr ⟨i, by omega, he⟩) (by omega)
      · rw [diffB_still (x := (j : Int)) (y := ((j + 1 : Nat) : Int)) (by omega) (fun i hi => ?_)]
        · exact ih (by omega)
        · have : (rnth l i).frm ≠ ((j + 1 : Nat) : Int) := fun he => e ⟨i, hi, he⟩
          omega
  rcases h with ⟨rfl, h2⟩ | ⟨h1, h2, h3, h4⟩
  · left
    refine ⟨rfl, .inr ⟨rfl, rfl, fun j hj0 hj1 => ?_⟩⟩
    have := key 73048 (fun c hc _ => h2 c hc) j.toNat (by omega)
    rwa [show (j.toNat : Int) = j from by omega] at this
  · right
    have hm : m ≤ 73048 := by
      rcases h2 with ⟨_, rfl⟩ | ⟨j, hj, rfl⟩
      · omega
      · exact rowB_frm2 (rowsB_nth hok (by omega))
    refine ⟨h1, .inl ⟨rfl, h1, hm, h3, fun j hj0 hj1 => ?_⟩⟩
    have := key j.toNat (fun c hc hcj => ?_) j.toNat (Nat.le_refl _)
    · rwa [show (j.toNat : Int) = j from by omega] at this
    · by_cases hd : diffB l p q c = true
      · have := h4 c hc hd; omega
      · simpa using hd

end Go.Proofs.YtonceehdmnkffaaGreatDoor.Hst
set_option linter.unusedSimpArgs false
namespace Go.Proofs.YtonceehdmnkffaaGreatDoor
open Go.RowKit Go.Sort

theorem othB_diff {l : List Hst.Rw} {day was is : Int} (h : Hst.histE l = 0) (hd : Hst.dayB day = true) (hw : Hst.dayB was = true) (hi : Hst.dayB is = true) : othB l day was is = Hst.diffB l was is day := by
  have e1 : Hst.dayE l [day, was] = 0 := by unfold Hst.dayE; rw [if_neg (by simp [h]), if_pos (by simp [hd, hw])]
  have e2 : Hst.dayE l [day, is] = 0 := by unfold Hst.dayE; rw [if_neg (by simp [h]), if_pos (by simp [hd, hi])]
  unfold othB inV inS Hst.diffB
  rw [if_pos e1, if_pos e2, if_pos e1, if_pos e2]
  generalize Hst.atV (Hst.best l day was l.length) = a
  generalize Hst.atV (Hst.best l day is l.length) = b
  generalize Hst.atS (Hst.best l day was l.length) = c
  generalize Hst.atS (Hst.best l day is l.length) = d
  by_cases e : a = b
  · subst e; cases c <;> cases d <;> simp
  · cases c <;> cases d <;> simp [e]
theorem PlanIs.hist {p : Pl} (h : PlanIs p 0) : ∀ j, j < p.ins.length → Hst.histE (inth p.ins j).rows = 0 := by
  rcases h with ⟨h, h'⟩ | ⟨_, h, h'⟩ | ⟨_, _, _, h'⟩ | ⟨_, _, _, _, h, h'⟩ | ⟨_, _, _, _, h, _⟩
  · exact absurd h'.symm h
  · exact absurd h'.symm h
  · cases h'
  · exact absurd h'.symm h
  · exact hisE_all h
set_option maxRecDepth 100000 in
set_option maxHeartbeats 2000000 in
theorem otherwise_ref (p : Pl) (al at' ai : Option Addr) (nl nt ni cl ct ci : Nat) (day was is : Int) (w : World) (hc : CameI w ai p.ins) (h3 : p.ins.length = ni) (hni : ni ≤ 30) (hok : ∀ j, j < ni → Hst.histE (inth p.ins j).rows = 0) (hd : Hst.dayB day = true) (hw : Hst.dayB was = true) (hi : Hst.dayB is = true) :
    Calls Tryz.prog 19 #[.agg #[.int .i64 p.K, .int .i64 p.A, .int .i64 p.L, .slice al nl cl, .slice at' nt ct, .slice ai ni ci], .int .i64 day, .int .i64 was, .int .i64 is] w fun e w' => e = .returned (.bool (difN p.ins day was is ni)) ∧ Below w.heap.size w w' := by
  have HB0 := Lib.hid (kbelow_box w (.cells #[.int .i64 p.K, .int .i64 p.A, .int .i64 p.L, .slice al nl cl, .slice at' nt ct, .slice ai ni ci] 28))
  have HP0 := Lib.hid (PBox.made w p.K p.A p.L al at' ai nl nt ni cl ct ci)
  have HO := Lib.hid (fun h0 => hc.open h3 h0)
  have HOK := Lib.hid hok
  have HD := Lib.hid (And.intro hd (And.intro hw hi))
  clear hc h3 hok hd hw hi
  go_enter Tryz.func19, Tryz.ntmps19
  go_wp2_with fail
  go_loopw [9] (fun i wr => ∃ k : Nat, k ≤ ni ∧ i = .int .i64 k ∧ difN p.ins day was is k = false ∧ PBox wr w.heap.size p.K p.A p.L al at' ai nl nt ni cl ct ci ∧ Below w.heap.size w wr) (fun i _ => ni - (intOf i).toNat)
  case atStart => exact ⟨0, Nat.zero_le _, rfl, rfl, HP0.out, HB0.out⟩
  case round =>
    clear HB0 HP0
    obtain ⟨k, hk, rfl, hdf, hpb, hb⟩ := hrel
    have HDF := Lib.hid hdf
    have HB := Lib.hid hb
    have HP := Lib.hid hpb
    clear hdf hb hpb
    obtain ⟨_, x0, x1, x2, x3, x4, x5⟩ := HP.out
    by_cases hlt : k < ni
    · have hlt' : (k : Int) < (ni : Int) := by omega
      obtain ⟨b, off, rfl, hcell⟩ := HO.out (by omega)
      obtain ⟨aj, cj, y0, y1, hcr, hns, hrm⟩ := hcell wr HB.out k hlt
      obtain ⟨rs, hrs⟩ : ∃ rs, (inth p.ins k).rows = rs := ⟨_, rfl⟩
      rw [hrs] at y1 hcr hrm
      obtain ⟨m, hm⟩ : ∃ m, rs.length = m := ⟨_, rfl⟩
      rw [hm] at y1 hrm
      have HRS := Lib.hid hrs
      have HRN := Lib.hid hm
      have HCR := Lib.hid hcr
      have hh := HOK.out k hlt
      rw [hrs] at hh
      have HHE := Lib.hid hh
      have hm50 : m ≤ 50 := by have := (Hst.histE_ok hh).1; omega
      have HSA := Lib.hid (Hst.sameAt_ref aj m cj rs day was is wr hcr hm hm50 (Hst.histE_ok hh).2.1)
      have HOT := Lib.hid (othB_diff hh HD.out.1 HD.out.2.1 HD.out.2.2)
      clear hcell hns hrs hm hcr hrm hh
      go_wp2_with fail
      refine HSA.out.mono ?_
      rintro e w2 ⟨rfl, hb2⟩
      have HB2 := Lib.hid (HB.out.trans (hb2.mono HB.out.size))
      have HP2 := Lib.hid (HP.out.below hb2 HP.out.1)
      clear hb2 x0 x1 x2 x3 x4 x5 y0 y1 HSA
      cases hdb : Hst.diffB rs was is day with
      | true =>
        have HTR : Hid (difN p.ins day was is ni = true) := Lib.hid (difN_some (k := k) (by rw [HRS.out, HOT.out]; exact hdb) ni hlt)
        clear hdb
        go_wp2_with fail
        go_ret
        exact ⟨kret_bool HTR.out.symm, HB2.out⟩
      | false =>
        have HFA : Hid (difN p.ins day was is (k + 1) = false) := Lib.hid (by rw [difN, HDF.out, HRS.out, HOT.out, hdb]; rfl)
        clear hdb
        go_wp2_with fail
        go_roundw
        case rel => exact ⟨k + 1, by omega, by go_num, HFA.out, HP2.out, HB2.out⟩
        case measure => simp [intOf]; omega
    · obtain rfl : k = ni := by omega
      have hltB : decide ((k : Int) < (k : Int)) = false := decide_eq_false (by omega)
      go_wp2_with fail
      go_ret
      exact ⟨kret_bool HDF.out.symm, HB.out⟩
end Go.Proofs.YtonceehdmnkffaaGreatDoor
