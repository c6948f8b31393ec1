/-
  Promise D3: walks of the reference's SameAt and DiffersAt.
-/
import Derived.Test.YtpcmdoaaombddaaHDiff
namespace Go.Proofs.Ytpcmdoaaombddaa
open Go.RowKit

set_option maxHeartbeats 1000000 in
theorem sameAt_ref (a : Option Addr) (n cap : Nat) (l : List Rw) (x p q : Int) (w : World) (hc : CameR w a l) (hn : l.length = n) (hm : n ≤ 50) (hok : rowsB l = true) :
    Calls Try.prog 25 #[.slice a n cap, .int .i64 x, .int .i64 p, .int .i64 x, .int .i64 q] w fun e w' => e = .returned (.bool (!diffB l p q x)) ∧ Below w.heap.size w w' := by
  have HC := Lib.hid hc
  have HN := Lib.hid hn
  have HROW := Lib.hid hok
  clear hc hn hok
  go_enter Try.func25, Try.ntmps25
  go_wp2_with fail
  refine (at_ref a n cap l x p w HC.out HN.out hm HROW.out).mono ?_
  rintro e w2 ⟨rfl, hb2⟩
  have HB2 := Lib.hid hb2
  clear hb2
  go_wp2_with fail
  refine (at_ref a n cap l x q w2 (HC.out.below HB2.out) HN.out hm HROW.out).mono ?_
  rintro e w3 ⟨rfl, hb3⟩
  have HB3 := Lib.hid (HB2.out.trans (hb3.mono HB2.out.size))
  clear hb3
  generalize hv1 : atV (best l x p n) = v1 at *
  generalize hs1 : atS (best l x p n) = s1 at *
  generalize hv2 : atV (best l x q n) = v2 at *
  generalize hs2 : atS (best l x q n) = s2 at *
  have HD := Lib.hid (diffB_of HN.out hv1 hs1 hv2 hs2)
  clear hv1 hs1 hv2 hs2
  by_cases e : v1 = v2
  · subst e
    go_wp2_with fail
    go_ret
    exact ⟨cret_bool (by rw [HD.out]; simp), HB3.out⟩
  · have eB : decide (v1 = v2) = false := decide_eq_false e
    go_wp2_with fail
    go_ret
    exact ⟨cret_bool (by rw [HD.out]; simp [e]), HB3.out⟩

/-- The days that the reference asks, of the first k rounds. -/
def Cand (l : List Rw) (k : Nat) (c : Int) : Prop := (0 < k ∧ c = 0) ∨ ∃ j, j + 1 < k ∧ (rnth l j).frm = c
/-- The least of them that differs; -1: none does. -/
def MinD (l : List Rw) (p q : Int) (k : Nat) (m : Int) : Prop := (m = -1 ∧ ∀ c, Cand l k c → diffB l p q c = false) ∨ (0 ≤ m ∧ Cand l k m ∧ diffB l p q m = true ∧ ∀ c, Cand l k c → diffB l p q c = true → m ≤ c)
/-- The k-th of them. -/
def candAt (l : List Rw) (k : Nat) : Int := if k = 0 then 0 else (rnth l (k - 1)).frm
theorem cand_step {l : List Rw} {k : Nat} {c : Int} : Cand l (k + 1) c ↔ Cand l k c ∨ c = candAt l k := by
  unfold Cand candAt
  constructor
  · rintro (⟨_, rfl⟩ | ⟨j, hj, rfl⟩)
    · by_cases e : k = 0
      · right; simp [e]
      · left; left; exact ⟨by omega, rfl⟩
    · by_cases e : j + 1 < k
      · left; right; exact ⟨j, e, rfl⟩
      · right
        have : k - 1 = j := by omega
        rw [if_neg (by omega), this]
  · rintro ((⟨h, rfl⟩ | ⟨j, hj, rfl⟩) | rfl)
    · left; exact ⟨by omega, rfl⟩
    · right; exact ⟨j, by omega, rfl⟩
    · by_cases e : k = 0
      · left; simp [e]
      · right
        rw [if_neg e]
        exact ⟨k - 1, by omega, rfl⟩
theorem MinD.same {l : List Rw} {p q : Int} {k : Nat} {m : Int} (h : MinD l p q k m) (hd : diffB l p q (candAt l k) = false) : MinD l p q (k + 1) m := by
  rcases h with ⟨h1, h2⟩ | ⟨h1, h2, h3, h4⟩
  · left
    refine ⟨h1, fun c hc => ?_⟩
    rcases cand_step.1 hc with hc | rfl
    · exact h2 c hc
    · exact hd
  · right
    refine ⟨h1, cand_step.2 (.inl h2), h3, fun c hc hd' => ?_⟩
    rcases cand_step.1 hc with hc | rfl
    · exact h4 c hc hd'
    · rw [hd] at hd'; cases hd'
theorem MinD.keep {l : List Rw} {p q : Int} {k : Nat} {m : Int} (h : MinD l p q k m) (hm : 0 ≤ m) (hle : m ≤ candAt l k) : MinD l p q (k + 1) m := by
  rcases h with ⟨h1, h2⟩ | ⟨h1, h2, h3, h4⟩
  · omega
  · right
    refine ⟨h1, cand_step.2 (.inl h2), h3, fun c hc hd' => ?_⟩
    rcases cand_step.1 hc with hc | rfl
    · exact h4 c hc hd'
    · exact hle
theorem MinD.take {l : List Rw} {p q : Int} {k : Nat} {m : Int} (h : MinD l p q k m) (h0 : 0 ≤ candAt l k) (hd : diffB l p q (candAt l k) = true) (hle : m < 0 ∨ candAt l k < m) : MinD l p q (k + 1) (candAt l k) := by
  right
  refine ⟨h0, cand_step.2 (.inr rfl), hd, fun c hc hd' => ?_⟩
  rcases cand_step.1 hc with hc | rfl
  · rcases h with ⟨h1, h2⟩ | ⟨h1, h2, h3, h4⟩
    · rw [h2 c hc] at hd'; cases hd'
    · have := h4 c hc hd'; omega
  · exact Int.le_refl _
/-- What the reference finds is the first day that differs. -/
theorem MinD.first {l : List Rw} {p q m : Int} (h : MinD l p q (l.length + 1) m) (hok : rowsB l = true) : (m = -1 ∧ FDiff l p q 0 false) ∨ (0 ≤ m ∧ FDiff l p q m true) := by
  have key : ∀ x : Nat, (∀ c, Cand l (l.length + 1) c → c ≤ x → diffB l p q c = false) → ∀ j : Nat, j ≤ x → diffB l p q (j : Int) = false := by
    intro x hx j
    induction j with
    | zero => intro _; exact hx 0 (.inl ⟨by omega, rfl⟩) (by omega)
    | succ j ih =>
      intro hj
      by_cases e : ∃ i, i < l.length ∧ (rnth l i).frm = ((j + 1 : Nat) : Int)
      · obtain ⟨i, hi, he⟩ := e
        exact hx _ (.inr ⟨i, by omega, he⟩) (by omega)
      · rw [diffB_still (x := (j : Int)) (y := ((j + 1 : Nat) : Int)) (by omega) (fun i hi => ?_)]
        · exact ih (by omega)
        · have : (rnth l i).frm ≠ ((j + 1 : Nat) : Int) := fun he => e ⟨i, hi, he⟩
          omega
  rcases h with ⟨rfl, h2⟩ | ⟨h1, h2, h3, h4⟩
  · left
    refine ⟨rfl, .inr ⟨rfl, rfl, fun j hj0 hj1 => ?_⟩⟩
    have := key 73048 (fun c hc _ => h2 c hc) j.toNat (by omega)
    rwa [show (j.toNat : Int) = j from by omega] at this
  · right
    have hm : m ≤ 73048 := by
      rcases h2 with ⟨_, rfl⟩ | ⟨j, hj, rfl⟩
      · omega
      · exact rowB_frm2 (rowsB_nth hok (by omega))
    refine ⟨h1, .inl ⟨rfl, h1, hm, h3, fun j hj0 hj1 => ?_⟩⟩
    have := key j.toNat (fun c hc hcj => ?_) j.toNat (Nat.le_refl _)
    · rwa [show (j.toNat : Int) = j from by omega] at this
    · by_cases hd : diffB l p q c = true
      · have := h4 c hc hd; omega
      · simpa using hd

set_option maxRecDepth 100000 in
set_option maxHeartbeats 1000000 in
theorem differsAt_ref (a : Option Addr) (n cap : Nat) (l : List Rw) (p q : Int) (w : World) (hc : CameR w a l) (hn : l.length = n) (hm : n ≤ 50) (hok : rowsB l = true) :
    Calls Try.prog 16 #[.slice a n cap, .int .i64 p, .int .i64 q] w fun e w' => ∃ m : Int, e = .returned (.int .i64 m) ∧ ((m = -1 ∧ FDiff l p q 0 false) ∨ (0 ≤ m ∧ FDiff l p q m true)) ∧ Below w.heap.size w w' := by
  have HO := Lib.hid (fun h0 => hc.open hn h0)
  have HC := Lib.hid hc
  have HN := Lib.hid hn
  have HROW := Lib.hid hok
  have HF : Hid (∀ k, 0 ≤ candAt l k ∨ n < k) := fun k => by
    unfold candAt
    by_cases e : k = 0
    · simp [e]
    · by_cases e2 : n < k
      · exact .inr e2
      · left; rw [if_neg e]; exact rowB_frm (rowsB_nth hok (by omega))
  clear hc hok
  go_enter Try.func16, Try.ntmps16
  go_wp2_with fail
  go_loopw [7, 8] (fun b i wr => ∃ (k : Nat) (m : Int), k ≤ n + 1 ∧ i = .int .i64 ((k : Int) - 1) ∧ b = .int .i64 m ∧ MinD l p q k m ∧ Below w.heap.size w wr) (fun _ i _ => (n - intOf i).toNat)
  case atStart => exact ⟨0, -1, Nat.zero_le _, rfl, rfl, .inl ⟨rfl, fun c hc => by rcases hc with ⟨h, _⟩ | ⟨j, h, _⟩ <;> omega⟩, Below.refl _ _⟩
  case round =>
    obtain ⟨k, m, hk, rfl, rfl, hM, hb⟩ := hrel
    have HMD := Lib.hid hM
    have HB := Lib.hid hb
    clear hM hb
    by_cases hlt : k < n + 1
    · have hlt' : (k : Int) - 1 < (n : Int) := by omega
      have HS := Lib.hid (fun w hc => sameAt_ref a n cap l (candAt l k) p q w hc HN.out hm HROW.out)
      have hc0 : 0 ≤ candAt l k := by rcases HF.out k with h | h <;> omega
      have HSAME := Lib.hid (fun hd => HMD.out.same hd)
      have HKEEP := Lib.hid (fun h1 h2 => HMD.out.keep h1 h2)
      have HTAKE := Lib.hid (fun hd h => HMD.out.take hc0 hd h)
      by_cases hk0 : k = 0
      · subst hk0
        have hca : candAt l 0 = 0 := rfl
        rw [hca] at HS HSAME HKEEP HTAKE hc0
        go_wp2_with fail
        refine (HS.out _ (HC.out.below HB.out)).mono ?_
        rintro e w2 ⟨rfl, hb2⟩
        have HB2 := Lib.hid (HB.out.trans (hb2.mono HB.out.size))
        clear hb2
        cases hd : diffB l p q (0)
        · have HT := Lib.hid (HSAME.out hd)
          go_wp2_with fail
          go_roundw
          case rel => exact ⟨0 + 1, _, by omega, by go_num, rfl, HT.out, HB2.out⟩
          case measure => simp [intOf] <;> omega
        · by_cases hm0 : m < 0
          · have HT := Lib.hid (HTAKE.out hd (.inl hm0))
            go_wp2_with fail
            go_roundw
            case rel => exact ⟨0 + 1, _, by omega, by go_num, rfl, HT.out, HB2.out⟩
            case measure => simp [intOf] <;> omega
          · have hm0B : decide (m < 0) = false := decide_eq_false hm0
            by_cases hm1 : 0 < m
            · have HT := Lib.hid (HTAKE.out hd (.inr hm1))
              go_wp2_with fail
              go_roundw
              case rel => exact ⟨0 + 1, _, by omega, by go_num, rfl, HT.out, HB2.out⟩
              case measure => simp [intOf] <;> omega
            · have hm1B : decide (0 < m) = false := decide_eq_false hm1
              have HT := Lib.hid (HKEEP.out (by omega) (by omega))
              go_wp2_with fail
              go_roundw
              case rel => exact ⟨0 + 1, _, by omega, by go_num, rfl, HT.out, HB2.out⟩
              case measure => simp [intOf] <;> omega
      · obtain ⟨j, rfl⟩ : ∃ j, k = j + 1 := ⟨k - 1, by omega⟩
        have hca : candAt l (j + 1) = (rnth l j).frm := rfl
        rw [hca] at HS HSAME HKEEP HTAKE hc0
        obtain ⟨b, off, rfl, hcell⟩ := HO.out (by omega)
        obtain ⟨x0, _, _, _⟩ := hcell wr HB.out j (by omega)
        clear hcell
        have hsub : ((j + 1 : Nat) : Int) - 1 = (j : Int) := by omega
        rw [hsub] at hlt'
        rw [hsub]
        go_wp2_with fail
        refine (HS.out _ (HC.out.below HB.out)).mono ?_
        rintro e w2 ⟨rfl, hb2⟩
        have HB2 := Lib.hid (HB.out.trans (hb2.mono HB.out.size))
        clear hb2
        cases hd : diffB l p q ((rnth l j).frm)
        · have HT := Lib.hid (HSAME.out hd)
          go_wp2_with fail
          go_roundw
          case rel => exact ⟨(j + 1) + 1, _, by omega, by go_num, rfl, HT.out, HB2.out⟩
          case measure => simp [intOf] <;> omega
        · by_cases hm0 : m < 0
          · have HT := Lib.hid (HTAKE.out hd (.inl hm0))
            go_wp2_with fail
            go_roundw
            case rel => exact ⟨(j + 1) + 1, _, by omega, by go_num, rfl, HT.out, HB2.out⟩
            case measure => simp [intOf] <;> omega
          · have hm0B : decide (m < 0) = false := decide_eq_false hm0
            by_cases hm1 : (rnth l j).frm < m
            · have HT := Lib.hid (HTAKE.out hd (.inr hm1))
              go_wp2_with fail
              go_roundw
              case rel => exact ⟨(j + 1) + 1, _, by omega, by go_num, rfl, HT.out, HB2.out⟩
              case measure => simp [intOf] <;> omega
            · have hm1B : decide ((rnth l j).frm < m) = false := decide_eq_false hm1
              have HT := Lib.hid (HKEEP.out (by omega) (by omega))
              go_wp2_with fail
              go_roundw
              case rel => exact ⟨(j + 1) + 1, _, by omega, by go_num, rfl, HT.out, HB2.out⟩
              case measure => simp [intOf] <;> omega
    · have hkn : k = n + 1 := by omega
      subst hkn
      have hnB : decide (((n + 1 : Nat) : Int) - 1 < (n : Int)) = false := decide_eq_false (by omega)
      have HE := Lib.hid (MinD.first (l := l) (p := p) (q := q) (m := m) (by rw [HN.out]; exact HMD.out) HROW.out)
      go_wp2_with fail
      go_ret
      exact ⟨_, rfl, HE.out, HB.out⟩
end Go.Proofs.Ytpcmdoaaombddaa
