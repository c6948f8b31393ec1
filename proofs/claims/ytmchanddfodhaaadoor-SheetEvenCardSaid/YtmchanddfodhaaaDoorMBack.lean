/-
  Promise A4 (back), the plain part: what money is printed as is read as it was, and what is read is printed as it was.
-/
import Derived.Test.YtmchanddfodhaaaDoorMReadV
namespace Go.Proofs.YtmchanddfodhaaaDoor.Mny
open Go.RowKit

def isD (c : UInt8) : Prop := 48 ≤ c.toNat ∧ c.toNat ≤ 57
/-- The number that a list of digits makes. -/
def valL (l : List UInt8) : Nat := l.foldl (fun n c => 10 * n + (c.toNat - 48)) 0
theorem valL_snoc (l : List UInt8) (c : UInt8) : valL (l ++ [c]) = 10 * valL l + (c.toNat - 48) := by simp [valL]
theorem dig_isD {n : Nat} (h : n < 10) : isD (dig n) ∧ (dig n).toNat = 48 + n := by
  have : (dig n).toNat = 48 + n := by unfold dig; rw [UInt8.toNat_ofNat']; omega
  exact ⟨⟨by omega, by omega⟩, this⟩
theorem dig_back {c : UInt8} (h : isD c) : dig (c.toNat - 48) = c := by
  apply UInt8.toNat_inj.1
  obtain ⟨h1, h2⟩ := h
  rw [(dig_isD (n := c.toNat - 48) (by omega)).2]
  omega
theorem dec_big {u : Nat} (h : ¬ u < 10) : Lib.decDigits u = Lib.decDigits (u / 10) ++ [dig (u % 10)] := by
  rw [Lib.decDigits, dif_neg h]; rfl
theorem dec_one {u : Nat} (h : u < 10) : Lib.decDigits u = [dig u] := Lib.decDigits_one h
theorem dec_facts (u : Nat) : valL (Lib.decDigits u) = u ∧ (∀ c ∈ Lib.decDigits u, isD c) ∧ 0 < (Lib.decDigits u).length ∧ (∀ c r, Lib.decDigits u = c :: r → c = 48 → u = 0 ∧ r = []) := by
  induction u using Nat.strongRecOn with
  | _ u ih =>
    by_cases h : u < 10
    · rw [dec_one h]
      obtain ⟨a, b⟩ := dig_isD h
      refine ⟨by simp [valL, b], by simpa using a, by simp, fun c r e hc => ?_⟩
      simp at e
      obtain ⟨rfl, rfl⟩ := e
      rw [hc] at b
      have : (48 : UInt8).toNat = 48 := rfl
      exact ⟨by omega, rfl⟩
    · obtain ⟨i1, i2, i3, i4⟩ := ih (u / 10) (by omega)
      rw [dec_big h]
      obtain ⟨a, b⟩ := dig_isD (n := u % 10) (by omega)
      refine ⟨by rw [valL_snoc, i1, b]; omega, fun c hc => ?_, by simp, fun c r e hc => ?_⟩
      · rcases List.mem_append.1 hc with hc | hc
        · exact i2 c hc
        · simp at hc; subst hc; exact a
      · match hd : Lib.decDigits (u / 10), i3 with
        | c' :: r', _ =>
          rw [hd] at e
          simp at e
          have := i4 c' r' hd (by rw [e.1]; exact hc)
          omega
/-- Digits without a nought ahead are those of their number. -/
theorem dec_val : ∀ (n : Nat) (l : List UInt8), l.length = n + 1 → (∀ c ∈ l, isD c) → (∀ c r, l = c :: r → c = 48 → r = []) → Lib.decDigits (valL l) = l ∧ (∀ c r, l = c :: r → c ≠ 48 → 1 ≤ valL l)
  | 0, l, hl, hd, _ => by
    match l, hl with
    | [c], _ =>
      have hc := hd c (by simp)
      have hv : valL [c] = c.toNat - 48 := by simp [valL]
      rw [hv]
      obtain ⟨h1, h2⟩ := hc
      refine ⟨by rw [dec_one (by omega), dig_back ⟨h1, h2⟩], fun x r e hx => ?_⟩
      simp at e
      obtain ⟨rfl, rfl⟩ := e
      have : c.toNat ≠ 48 := fun e => hx (UInt8.toNat_inj.1 e)
      omega
  | n + 1, l, hl, hd, h0 => by
    obtain ⟨l', c, rfl⟩ : ∃ l' c, l = l' ++ [c] := ⟨l.dropLast, l.getLast (by intro e; simp [e] at hl), (List.dropLast_concat_getLast _).symm⟩
    have hl' : l'.length = n + 1 := by simpa using hl
    have hne : ∀ c' r', l' = c' :: r' → c' ≠ 48 := fun c' r' e hc => by
      have := h0 c' (r' ++ [c]) (by rw [e]; rfl) hc
      simp at this
    obtain ⟨i1, i2⟩ := dec_val n l' hl' (fun x hx => hd x (by simp [hx])) (fun x r e hx => absurd hx (hne x r e))
    have hc := hd c (by simp)
    obtain ⟨c1, c2⟩ := hc
    have hpos : 1 ≤ valL l' := by
      match l', hl' with
      | c' :: r', _ => exact i2 c' r' rfl (hne c' r' rfl)
    rw [valL_snoc]
    refine ⟨?_, fun _ _ _ _ => by omega⟩
    rw [dec_big (by omega)]
    have e1 : (10 * valL l' + (c.toNat - 48)) / 10 = valL l' := by omega
    have e2 : (10 * valL l' + (c.toNat - 48)) % 10 = c.toNat - 48 := by omega
    rw [e1, e2, i1, dig_back ⟨c1, c2⟩]

/-! ### Bytes and lists -/
theorem bt_list (s : ByteArray) (j : Nat) : bt s j = match s.data.toList[j]? with | some c => (c.toNat : Int) | none => -1 := by
  by_cases h : j < s.size
  · rw [bt_in h]
    have hl : j < s.data.toList.length := by rw [← size_toList]; exact h
    rw [List.getElem?_eq_getElem hl]
    rfl
  · rw [bt_out h, List.getElem?_eq_none (by rw [← size_toList]; omega)]
theorem digB_list {s : ByteArray} {j : Nat} : digB s j = true ↔ ∃ c, s.data.toList[j]? = some c ∧ isD c := by
  unfold digB
  rw [decide_eq_true_iff, bt_list]
  cases h : s.data.toList[j]? with
  | none => simp
  | some c => simp [isD]; omega
theorem take_drop_snoc {l : List UInt8} {a k : Nat} {c : UInt8} (h : l[a + k]? = some c) : (l.drop a).take (k + 1) = (l.drop a).take k ++ [c] := by
  rw [List.take_add_one, List.getElem?_drop, h]; rfl
/-- The number that is read is that of the digits, where it is no more than money. -/
theorem vTo_val (s : ByteArray) (a : Nat) (k : Nat) (hd : ∀ j, j < k → digB s (a + j) = true) :
    (vTo s a 0 k ≤ 1000000000000 → vTo s a 0 k = (valL ((s.data.toList.drop a).take k) : Nat)) ∧ ((valL ((s.data.toList.drop a).take k) : Int) ≤ 1000000000000 → vTo s a 0 k = (valL ((s.data.toList.drop a).take k) : Nat)) := by
  induction k with
  | zero => simp [vTo, valL]
  | succ k ih =>
    obtain ⟨i1, i2⟩ := ih (fun j hj => hd j (by omega))
    obtain ⟨c, hc, hD1, hD2⟩ := digB_list.1 (hd k (by omega))
    have hb : bt s (a + k) = (c.toNat : Int) := by rw [bt_list, hc]
    rw [take_drop_snoc hc, valL_snoc]
    simp only [vTo, sat, hb]
    constructor
    · intro h
      by_cases h1 : vTo s a 0 k ≤ 1000000000000
      · rw [if_pos h1, i1 h1]; omega
      · rw [if_neg h1] at h; omega
    · intro h
      have h1 := i2 (by omega)
      rw [if_pos (by omega), h1]; omega

theorem dEnd_not2 (s : ByteArray) : ∀ f a, s.size ≤ a + f → digB s (dEnd s f a) = false
  | 0, a, h => by
    cases hd : digB s a
    · exact hd
    · have := digB_lt hd; omega
  | f + 1, a, h => by
    unfold dEnd
    split
    · exact dEnd_not2 s f (a + 1) (by omega)
    · rename_i hd; simpa using hd
theorem dEnd_is {s : ByteArray} {a p : Nat} (h1 : a ≤ p) (hd : ∀ j, a ≤ j → j < p → digB s j = true) (hp : digB s p = false) (ha : a ≤ s.size) : dEnd s (s.size - a) a = p := by
  have e1 := dEnd_ge s (s.size - a) a
  have e2 := dEnd_not2 s (s.size - a) a (by omega)
  have e3 := dEnd_dig s (s.size - a) a
  generalize dEnd s (s.size - a) a = e at *
  by_cases h : e < p
  · rw [hd e e1 h] at e2; cases e2
  · by_cases h' : p < e
    · rw [e3 p h1 h'] at hp; cases hp
    · omega

/-- A text of the right form, its parts: what is ahead, the digits, the point, two digits. -/
structure Form (s : ByteArray) (pre D : List UInt8) (d1 d2 : UInt8) : Prop where
  all : s.data.toList = pre ++ (D ++ [46, d1, d2])
  digs : ∀ c ∈ D, isD c
  some' : 0 < D.length
  lead : ∀ c r, D = c :: r → c = 48 → r = []
  one : isD d1
  two : isD d2

theorem Form.at {s : ByteArray} {pre D : List UInt8} {d1 d2 : UInt8} (h : Form s pre D d1 d2) (j : Nat) : s.data.toList[pre.length + j]? = (D ++ [46, d1, d2])[j]? := by
  rw [h.all, List.getElem?_append_right (by omega)]
  congr 1
  omega
theorem Form.size {s : ByteArray} {pre D : List UInt8} {d1 d2 : UInt8} (h : Form s pre D d1 d2) : s.size = pre.length + D.length + 3 := by
  rw [size_toList, h.all]; simp; omega
theorem Form.dig {s : ByteArray} {pre D : List UInt8} {d1 d2 : UInt8} (h : Form s pre D d1 d2) {j : Nat} (hj : j < D.length) : digB s (pre.length + j) = true := by
  refine digB_list.2 ⟨D[j], ?_, h.digs _ (List.getElem_mem hj)⟩
  rw [h.at, List.getElem?_append_left hj, List.getElem?_eq_getElem hj]
theorem Form.point {s : ByteArray} {pre D : List UInt8} {d1 d2 : UInt8} (h : Form s pre D d1 d2) :
    bt s (pre.length + D.length) = 46 ∧ bt s (pre.length + D.length + 1) = d1.toNat ∧ bt s (pre.length + D.length + 2) = d2.toNat := by
  refine ⟨?_, ?_, ?_⟩
  · rw [bt_list, h.at, List.getElem?_append_right (Nat.le_refl _), Nat.sub_self]; rfl
  · rw [bt_list, Nat.add_assoc, h.at, List.getElem?_append_right (by omega), show D.length + 1 - D.length = 1 from by omega]; rfl
  · rw [bt_list, Nat.add_assoc, h.at, List.getElem?_append_right (by omega), show D.length + 2 - D.length = 2 from by omega]; rfl
theorem Form.wEnd {s : ByteArray} {pre D : List UInt8} {d1 d2 : UInt8} (h : Form s pre D d1 d2) : wEnd s pre.length = pre.length + D.length := by
  have hsz := h.size
  have hp := h.point.1
  unfold Go.Proofs.YtmchanddfodhaaaDoor.Mny.wEnd
  by_cases h48 : bt s pre.length = 48
  · rw [if_pos h48]
    match D, h, h.some', hsz, hp with
    | c :: r, h, _, _, _ =>
      have hc : s.data.toList[pre.length + 0]? = some c := by rw [h.at]; rfl
      rw [bt_list, ← Nat.add_zero pre.length, hc] at h48
      have e : c = 48 := UInt8.toNat_inj.1 (by have : (48 : UInt8).toNat = 48 := rfl; simp at h48; omega)
      have := h.lead c r rfl e
      subst this
      rfl
  · rw [if_neg h48]
    refine dEnd_is (by omega) (fun j h1 h2 => ?_) (decide_eq_false (by rw [hp]; omega)) (by omega)
    have := h.dig (j := j - pre.length) (by omega)
    rwa [show pre.length + (j - pre.length) = j from by omega] at this
theorem Form.read {s : ByteArray} {pre D : List UInt8} {d1 d2 : UInt8} (h : Form s pre D d1 d2) (hm : (valL D : Int) * 100 + (d1.toNat - 48) * 10 + (d2.toNat - 48) ≤ 1000000000000) :
    wrAt s pre.length (Go.Proofs.YtmchanddfodhaaaDoor.Mny.wEnd s pre.length) = -1 ∧ rdV s pre.length (Go.Proofs.YtmchanddfodhaaaDoor.Mny.wEnd s pre.length) = (valL D : Int) * 100 + (d1.toNat - 48) * 10 + (d2.toNat - 48) := by
  have hsz := h.size
  obtain ⟨p0, p1, p2⟩ := h.point
  obtain ⟨o1, o2⟩ := h.one
  obtain ⟨t1, t2⟩ := h.two
  rw [h.wEnd]
  have q1 : digB s (pre.length + D.length + 1) = true := decide_eq_true (by rw [p1]; omega)
  have q2 : digB s (pre.length + D.length + 2) = true := decide_eq_true (by rw [p2]; omega)
  constructor
  · unfold wrAt
    have := h.some'
    rw [if_neg (by omega), if_neg (by simp [p0]), if_neg (by simp [q1]), if_neg (by simp [q2]), if_neg (by omega)]
  · have hv := (vTo_val s pre.length D.length (fun j hj => h.dig hj)).2
    have ht : (s.data.toList.drop pre.length).take D.length = D := by
      rw [h.all, List.drop_left, List.take_left]
    rw [ht] at hv
    have hv' := hv (by omega)
    have e : rdV s pre.length (pre.length + D.length) = sat (sat (vTo s pre.length 0 (pre.length + D.length - pre.length)) (bt s (pre.length + D.length + 1) - 48)) (bt s (pre.length + D.length + 2) - 48) := rfl
    rw [e, show pre.length + D.length - pre.length = D.length from by omega, hv', p1, p2]
    unfold sat
    rw [if_pos (show (valL D : Int) ≤ 1000000000000 by omega), if_pos (by omega)]
    omega

/-- WHAT IS PRINTED IS READ AS IT WAS. -/
theorem print_read {s : ByteArray} {n : Int} (h : monB n = true) (hs : s.data.toList = printL n) : rmE s = 0 ∧ rmN s = n := by
  have hn : -1000000000000 ≤ n ∧ n ≤ 1000000000000 := of_decide_eq_true h
  obtain ⟨f1, f2, f3, f4⟩ := dec_facts (n.natAbs / 100)
  obtain ⟨g1, g2⟩ := dig_isD (n := n.natAbs / 10 % 10) (by omega)
  obtain ⟨k1, k2⟩ := dig_isD (n := n.natAbs % 10) (by omega)
  have lead : ∀ c r, Lib.decDigits (n.natAbs / 100) = c :: r → c = 48 → r = [] := fun c r e hc => (f4 c r e hc).2
  by_cases hneg : n < 0
  · have F : Form s [45] (Lib.decDigits (n.natAbs / 100)) (dig (n.natAbs / 10 % 10)) (dig (n.natAbs % 10)) :=
      ⟨by rw [hs]; unfold printL; rw [if_pos hneg]; simp, f2, f3, lead, g1, k1⟩
    have hb : bt s 0 = 45 := by rw [bt_list, F.all]; rfl
    have hst : mStart s = 1 := by unfold mStart; rw [if_pos hb]
    obtain ⟨r1, r2⟩ := F.read (by rw [f1, g2, k2]; omega)
    rw [f1, g2, k2] at r2
    rw [show ([45] : List UInt8).length = 1 from rfl] at r1 r2
    have e0 : rdV s 1 (wEnd s 1) = -n := by rw [r2]; omega
    have e1 : rmE s = 0 := by unfold rmE; rw [hst, if_neg (by simp [r1]), e0, if_neg (by omega), if_neg (by omega)]
    refine ⟨e1, ?_⟩
    unfold rmN
    rw [if_neg (by rw [e1]; simp), hst, if_pos rfl, e0]
    omega
  · have F : Form s [] (Lib.decDigits (n.natAbs / 100)) (dig (n.natAbs / 10 % 10)) (dig (n.natAbs % 10)) :=
      ⟨by rw [hs]; unfold printL; rw [if_neg hneg]; simp, f2, f3, lead, g1, k1⟩
    have hb : bt s 0 ≠ 45 := by
      have := F.dig (j := 0) f3
      have := of_decide_eq_true this
      simp at this
      omega
    have hst : mStart s = 0 := by unfold mStart; rw [if_neg hb]
    obtain ⟨r1, r2⟩ := F.read (by rw [f1, g2, k2]; omega)
    rw [f1, g2, k2] at r2
    rw [show ([] : List UInt8).length = 0 from rfl] at r1 r2
    have e0 : rdV s 0 (wEnd s 0) = n := by rw [r2]; omega
    have e1 : rmE s = 0 := by unfold rmE; rw [hst, if_neg (by simp [r1]), e0, if_neg (by simp), if_neg (by omega)]
    refine ⟨e1, ?_⟩
    unfold rmN
    rw [if_neg (by rw [e1]; simp), hst, if_neg (by decide), e0]

/-- The parts of a text that goes nowhere wrong. -/
theorem form_of {s : ByteArray} {a : Nat} (hw : wrAt s a (wEnd s a) = -1) (hr : rdV s a (wEnd s a) ≤ 1000000000000) :
    ∃ (D : List UInt8) (d1 d2 : UInt8), Form s (s.data.toList.take a) D d1 d2 ∧ rdV s a (wEnd s a) = (valL D : Int) * 100 + (d1.toNat - 48) * 10 + (d2.toNat - 48) ∧ Lib.decDigits (valL D) = D := by
  obtain ⟨h1, h3, h4, h5, h6⟩ := wrAt_no hw
  have hge := wEnd_ge s a
  have hdg : ∀ j, j < wEnd s a - a → digB s (a + j) = true := fun j hj => wEnd_dig s a (a + j) (by omega) (by omega)
  have hlead : bt s a = 48 → wEnd s a = a + 1 := fun h => by unfold wEnd; rw [if_pos h]
  have hv := (vTo_val s a (wEnd s a - a) hdg).1
  have hlen : s.data.toList.length = wEnd s a + 3 := by rw [← size_toList]; exact h6
  obtain ⟨c1, k1, o1⟩ := digB_list.1 h4
  obtain ⟨c2, k2, o2⟩ := digB_list.1 h5
  have b1 : bt s (wEnd s a + 1) = (c1.toNat : Int) := by rw [bt_list, k1]
  have b2 : bt s (wEnd s a + 2) = (c2.toNat : Int) := by rw [bt_list, k2]
  have e : rdV s a (wEnd s a) = sat (sat (vTo s a 0 (wEnd s a - a)) (bt s (wEnd s a + 1) - 48)) (bt s (wEnd s a + 2) - 48) := rfl
  generalize wEnd s a = p at *
  obtain ⟨x1, x2⟩ := o1
  obtain ⟨y1, y2⟩ := o2
  rw [e, b1, b2] at hr
  have hv1 : vTo s a 0 (p - a) ≤ 1000000000000 := by
    by_cases h : vTo s a 0 (p - a) ≤ 1000000000000
    · exact h
    · unfold sat at hr; rw [if_neg h, if_neg h] at hr; omega
  have hv2 := hv hv1
  have hr2 : rdV s a p = (valL ((s.data.toList.drop a).take (p - a)) : Int) * 100 + (c1.toNat - 48) * 10 + (c2.toNat - 48) := by
    rw [e, b1, b2, ← hv2]
    unfold sat at hr ⊢
    rw [if_pos hv1] at hr ⊢
    by_cases h : 10 * vTo s a 0 (p - a) + ((c1.toNat : Int) - 48) ≤ 1000000000000
    · rw [if_pos h]; omega
    · rw [if_neg h] at hr; omega
  have hDl : ((s.data.toList.drop a).take (p - a)).length = p - a := by simp; omega
  have hDd : ∀ c ∈ (s.data.toList.drop a).take (p - a), isD c := by
    intro c hc
    obtain ⟨j, hj, rfl⟩ := List.mem_iff_getElem.1 hc
    rw [hDl] at hj
    obtain ⟨c', hc', hD⟩ := digB_list.1 (hdg j hj)
    have : ((s.data.toList.drop a).take (p - a))[j]? = some c' := by rw [List.getElem?_take, if_pos hj, List.getElem?_drop]; exact hc'
    rw [List.getElem?_eq_getElem (by rw [hDl]; exact hj)] at this
    rw [Option.some.inj this]
    exact hD
  have hDlead : ∀ c r, (s.data.toList.drop a).take (p - a) = c :: r → c = 48 → r = [] := by
    intro c r hcr hc
    have h0 : ((s.data.toList.drop a).take (p - a))[0]? = some c := by rw [hcr]; rfl
    rw [List.getElem?_take, if_pos (by omega), List.getElem?_drop] at h0
    have hb : bt s a = 48 := by
      rw [bt_list]
      rw [Nat.add_zero] at h0
      rw [h0, hc]
      rfl
    have := hlead hb
    have hl := congrArg List.length hcr
    rw [hDl] at hl
    simp at hl
    exact List.eq_nil_of_length_eq_zero (by omega)
  have hdec := (dec_val (p - a - 1) _ (by rw [hDl]; omega) hDd hDlead).1
  refine ⟨(s.data.toList.drop a).take (p - a), c1, c2, ⟨?_, hDd, by rw [hDl]; omega, hDlead, ⟨x1, x2⟩, ⟨y1, y2⟩⟩, hr2, hdec⟩
  have hpt : s.data.toList[p]? = some 46 := by
    have hp : p < s.data.toList.length := by omega
    rw [bt_list, List.getElem?_eq_getElem hp] at h3
    rw [List.getElem?_eq_getElem hp]
    congr 1
    apply UInt8.toNat_inj.1
    have h46 : (46 : UInt8).toNat = 46 := rfl
    have h3' : ((s.data.toList[p]).toNat : Int) = 46 := h3
    rw [h46]
    omega
  have hdrop : s.data.toList.drop p = [46, c1, c2] := by
    apply List.ext_getElem?
    intro j
    rw [List.getElem?_drop]
    match j with
    | 0 => rw [Nat.add_zero, hpt]; rfl
    | 1 => rw [k1]; rfl
    | 2 => rw [k2]; rfl
    | j + 3 => rw [List.getElem?_eq_none (by omega)]; rfl
  have hd2 : s.data.toList.drop p = (s.data.toList.drop a).drop (p - a) := by
    rw [List.drop_drop]; congr 1; omega
  rw [← hdrop, hd2, List.take_append_drop, List.take_append_drop]

/-- WHAT IS READ IS PRINTED AS IT WAS. -/
theorem read_print {s : ByteArray} (h : rmE s = 0) : monB (rmN s) = true ∧ printL (rmN s) = s.data.toList := by
  have hw : wrAt s (mStart s) (wEnd s (mStart s)) = -1 := by
    by_cases hw : wrAt s (mStart s) (wEnd s (mStart s)) = -1
    · exact hw
    · unfold rmE at h; rw [if_pos hw] at h; omega
  have hz : ¬ (mStart s = 1 ∧ rdV s (mStart s) (wEnd s (mStart s)) = 0) := fun hz => by
    unfold rmE at h; rw [if_neg (by simp [hw]), if_pos hz] at h; omega
  have hr : rdV s (mStart s) (wEnd s (mStart s)) ≤ 1000000000000 := by
    by_cases hr : 1000000000000 < rdV s (mStart s) (wEnd s (mStart s))
    · unfold rmE at h; rw [if_neg (by simp [hw]), if_neg hz, if_pos hr] at h; omega
    · omega
  have hN : rmN s = if mStart s = 1 then -rdV s (mStart s) (wEnd s (mStart s)) else rdV s (mStart s) (wEnd s (mStart s)) := by
    unfold rmN; rw [if_neg (by simp [h])]
  obtain ⟨D, d1, d2, F, hv, hdec⟩ := form_of hw hr
  obtain ⟨o1, o2⟩ := F.one
  obtain ⟨t1, t2⟩ := F.two
  have hall := F.all
  have b1 := dig_back F.one
  have b2 := dig_back F.two
  generalize rdV s (mStart s) (wEnd s (mStart s)) = V at *
  have hbt := bt_list s 0
  have hV0 : 0 ≤ V := by omega
  have n1 : V.natAbs / 100 = valL D := by omega
  have n2 : V.natAbs / 10 % 10 = d1.toNat - 48 := by omega
  have n3 : V.natAbs % 10 = d2.toNat - 48 := by omega
  by_cases hm : bt s 0 = 45
  · have e1 : mStart s = 1 := by unfold mStart; rw [if_pos hm]
    rw [e1] at hz hN hall
    rw [if_pos rfl] at hN
    have hV : 0 < V := by omega
    have ht : s.data.toList.take 1 = [45] := by
      rw [hm] at hbt
      cases hl : s.data.toList with
      | nil => rw [hl] at hbt; simp at hbt
      | cons c r =>
        rw [hl] at hbt
        simp at hbt ⊢
        apply UInt8.toNat_inj.1
        have : (45 : UInt8).toNat = 45 := rfl
        omega
    rw [hN]
    refine ⟨decide_eq_true (by omega), ?_⟩
    unfold printL
    rw [if_pos (by omega), Int.natAbs_neg, n1, n2, n3, hdec, b1, b2, hall, ht]
    simp
  · have e1 : mStart s = 0 := by unfold mStart; rw [if_neg hm]
    rw [e1] at hN hall
    rw [if_neg (by decide)] at hN
    rw [hN]
    refine ⟨decide_eq_true (by omega), ?_⟩
    unfold printL
    rw [if_neg (by omega), n1, n2, n3, hdec, b1, b2, hall]
    simp

theorem dec_len (m : Nat) : (Lib.decDigits m).length ≤ m + 1 := by
  induction m using Nat.strongRecOn with
  | _ m ih =>
    by_cases h : m < 10
    · rw [dec_one h]; simp
    · rw [dec_big h]
      have := ih (m / 10) (by omega)
      simp
      omega
theorem print_len {n : Int} (h : monB n = true) : (printL n).length ≤ 10000000010 := by
  have hn : -1000000000000 ≤ n ∧ n ≤ 1000000000000 := of_decide_eq_true h
  have := dec_len (n.natAbs / 100)
  unfold printL
  split <;> simp <;> omega
end Go.Proofs.YtmchanddfodhaaaDoor.Mny
