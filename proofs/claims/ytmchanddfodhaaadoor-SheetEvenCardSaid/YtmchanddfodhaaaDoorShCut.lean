/-
  Promise U2: a sheet's text, cut into its lines again: pure.
-/
import Derived.Test.YtmchanddfodhaaaDoorShPrn
import Derived.Lib.IndexBytes
import Derived.Lib.CountLaws
import Derived.Lib.SplitLaws
namespace Go.Proofs.YtmchanddfodhaaaDoor
open Go.RowKit Mny

theorem idx_hit {c : UInt8} : ∀ {a t : List UInt8}, c ∉ a → Lib.index (a ++ c :: t) [c] = (a.length : Int)
  | [], t, _ => by rw [Lib.index_one]; simp [Lib.indexByte]
  | b :: a, t, h => by
    have h1 : (b == c) = false := by simpa using fun e => h (by simp [e])
    have ih := idx_hit (c := c) (a := a) (t := t) (fun q => h (by simp [q]))
    rw [Lib.index_one] at ih ⊢
    rw [List.cons_append, Lib.indexByte, h1, ih]
    have : ((a.length : Int) == -1) = false := by simp
    rw [this]
    simp
theorem idx_miss {c : UInt8} : ∀ {a : List UInt8}, c ∉ a → Lib.index a [c] = -1
  | [], _ => by rw [Lib.index_one]; rfl
  | b :: a, h => by
    have h1 : (b == c) = false := by simpa using fun e => h (by simp [e])
    have ih := idx_miss (c := c) (a := a) (fun q => h (by simp [q]))
    rw [Lib.index_one] at ih ⊢
    rw [Lib.indexByte, h1, ih]
    rfl
/-- Lines, a line feed behind each. -/
def feedL : List (List UInt8) → List UInt8
  | [] => []
  | a :: r => a ++ 10 :: feedL r
theorem feedL_append : ∀ a b, feedL (a ++ b) = feedL a ++ feedL b
  | [], b => rfl
  | x :: a, b => by simp [feedL, feedL_append a b]
theorem feedL_count : ∀ {r : List (List UInt8)}, (∀ a ∈ r, (10 : UInt8) ∉ a) → Lib.count (feedL r) [10] = r.length
  | [], _ => Lib.count_miss (idx_miss (by simp [feedL]))
  | a :: r, h => by
    rw [feedL, Lib.count_hit (i := a.length) (by simp) (idx_hit (h a (by simp)))]
    have e : (a ++ 10 :: feedL r).drop (a.length + [(10 : UInt8)].length) = feedL r := by simp
    rw [e, feedL_count fun b hb => h b (by simp [hb]), List.length_cons]
    omega
theorem feedL_split : ∀ {r : List (List UInt8)}, (∀ a ∈ r, (10 : UInt8) ∉ a) → Lib.splitK [10] 0 r.length (feedL r) = r ++ [[]]
  | [], _ => rfl
  | a :: r, h => by
    have hi := idx_hit (c := 10) (a := a) (t := feedL r) (h a (by simp))
    rw [feedL, List.length_cons, Lib.splitK, hi]
    have : ((a.length : Int) == -1) = false := by simp
    rw [this]
    have e : (a ++ 10 :: feedL r).drop (a.length + [(10 : UInt8)].length) = feedL r := by simp
    rw [Int.toNat_natCast, e, feedL_split fun b hb => h b (by simp [hb])]
    simp
/-- The parts of a text between line feeds. -/
def sepF : ByteArray := ⟨#[10]⟩
def cntF (s : ByteArray) : Nat := Lib.countB s sepF
def parts (s : ByteArray) : List ByteArray := Lib.splitB sepF 0 (cntF s) s
def part (s : ByteArray) (j : Nat) : ByteArray := (parts s).getD j nilT
theorem parts_len (s : ByteArray) : (parts s).length = cntF s + 1 := Lib.splitB_all sepF (by decide) 0 (cntF s) s rfl
theorem cntF_le (s : ByteArray) : cntF s ≤ s.size := Lib.countB_le sepF (by decide) s.size s (Nat.le_refl _)
theorem splitB_small : ∀ (k : Nat) (s t : ByteArray), t ∈ Lib.splitB sepF 0 k s → t.size ≤ s.size
  | 0, s, t, h => by
    rw [Lib.splitB_zero] at h
    obtain rfl : t = s := by simpa using h
    exact Nat.le_refl _
  | k + 1, s, t, h => by
    rw [Lib.splitB] at h
    split at h
    · obtain rfl : t = s := by simpa using h
      exact Nat.le_refl _
    · rcases List.mem_cons.1 h with h | h
      · subst h
        rw [ByteArray.size_extract]
        omega
      · have := splitB_small k _ t h
        rw [ByteArray.size_extract] at this
        omega
theorem part_small (s : ByteArray) (j : Nat) : (part s j).size ≤ s.size := by
  unfold part
  by_cases h : j < (parts s).length
  · rw [List.getD_eq_getElem?_getD, List.getElem?_eq_getElem h]
    exact splitB_small _ s _ (List.getElem_mem h)
  · rw [List.getD_eq_getElem?_getD, List.getElem?_eq_none (by omega)]
    exact Nat.zero_le _
/-- What a line is read as. -/
def nameP (t : ByteArray) : ByteArray := ⟨(Lib.cut t.data.toList [46]).1.toArray⟩
def restP (t : ByteArray) : ByteArray := ⟨(Lib.cut t.data.toList [46]).2.1.toArray⟩
def trimP (t : ByteArray) : ByteArray := ⟨(Lib.trimLeftB t.data.toList 46).toArray⟩
def readOne (t : ByteArray) : Am := ⟨nameP t, rmN (trimP (restP t))⟩
theorem cut_len (a : List UInt8) : (Lib.cut a [46]).1.length ≤ a.length ∧ (Lib.cut a [46]).2.1.length ≤ a.length := by
  unfold Lib.cut
  split
  · simp only [List.length_take, List.length_drop]
    omega
  · simp
theorem nameP_small (t : ByteArray) : (nameP t).size ≤ t.size := by
  rw [size_toList, size_toList t]
  simpa [nameP] using (cut_len t.data.toList).1
theorem restP_small (t : ByteArray) : (restP t).size ≤ t.size := by
  rw [size_toList, size_toList t]
  simpa [restP] using (cut_len t.data.toList).2
theorem trimP_small (t : ByteArray) : (trimP t).size ≤ t.size := by
  rw [size_toList, size_toList t]
  have : (trimP t).data.toList = Lib.trimLeftB t.data.toList 46 := by simp [trimP]
  rw [this]
  unfold Lib.trimLeftB
  exact (List.dropWhile_sublist _).length_le
/-- The amounts that the first k lines are read as. -/
def readK (s : ByteArray) : Nat → List Am
  | 0 => []
  | k + 1 => readK s k ++ [readOne (part s k)]
theorem readK_len (s : ByteArray) : ∀ k, (readK s k).length = k
  | 0 => rfl
  | k + 1 => by simp [readK, readK_len s k]
theorem readK_at (s : ByteArray) : ∀ (k j : Nat), j < k → anth (readK s k) j = readOne (part s j)
  | 0, j, h => by omega
  | k + 1, j, h => by
    by_cases e : j = k
    · subst e
      simp [anth, readK, readK_len]
    · have ih := readK_at s k j (by omega)
      rw [← ih]
      simp [anth, readK, List.getElem?_append_left, readK_len, show j < k by omega]
theorem readK_fit (s : ByteArray) (k : Nat) (hs : s.size ≤ 1891) : NamesFit (readK s k) := fun j hj => by
  rw [readK_len] at hj
  rw [readK_at s k j hj]
  have h1 := nameP_small (part s j)
  have h2 := part_small s j
  show (nameP (part s j)).size ≤ maxLen
  unfold maxLen
  omega
def rdL (s : ByteArray) : List Am := if 1891 < s.size then [] else readK s (cntF s - 1)
def rdW (s : ByteArray) : Int := if 1891 < s.size then 0 else ((part s 0).size : Int)
theorem rdL_fit (s : ByteArray) : NamesFit (rdL s) := by
  unfold rdL
  split
  · intro j hj; simp at hj
  · exact readK_fit s _ (by omega)
theorem rdL_len (s : ByteArray) : (rdL s).length ≤ 1891 := by
  unfold rdL
  split
  · simp
  · rw [readK_len]
    have := cntF_le s
    omega
/-- Is the text a sheet? -/
def psB (s : ByteArray) : Bool := decide (shE (rdL s) (rdL s).length (rdW s) = 0) && decide ((shT (rdL s) (rdL s).length (rdW s)).data = s.data)
theorem psB_true {s : ByteArray} (h : psB s = true) : shE (rdL s) (rdL s).length (rdW s) = 0 ∧ shT (rdL s) (rdL s).length (rdW s) = s := by
  unfold psB at h
  rw [Bool.and_eq_true] at h
  refine ⟨of_decide_eq_true h.1, ?_⟩
  have := of_decide_eq_true h.2
  exact ba_ext (by rw [this])
/-- A line without its line feed. -/
def bodyL (r : Am) (x : Int) : List UInt8 := r.name.data.toList ++ List.replicate (dotsA r x).toNat 46 ++ printL r.mon
theorem lineL_body (r : Am) (x : Int) : lineL r x = bodyL r x ++ [10] := rfl
theorem print_bytes (n : Int) : (∀ c ∈ printL n, c ≠ 10) ∧ ∃ c t, printL n = c :: t ∧ c ≠ 46 := by
  obtain ⟨_, h2, h3, _⟩ := dec_facts (n.natAbs / 100)
  have hd1 := (dig_isD (n := n.natAbs / 10 % 10) (by omega)).1
  have hd2 := (dig_isD (n := n.natAbs % 10) (by omega)).1
  have ne10 : ∀ c : UInt8, isD c → c ≠ 10 := fun c hc e => by rw [e] at hc; exact absurd hc.1 (by decide)
  have ne46 : ∀ c : UInt8, isD c → c ≠ 46 := fun c hc e => by rw [e] at hc; exact absurd hc.1 (by decide)
  constructor
  · intro c hc
    unfold printL at hc
    simp only [List.mem_append, List.mem_cons, List.not_mem_nil, or_false] at hc
    rcases hc with ((hc | hc) | hc) | hc | hc
    · split at hc
      · have : c = 45 := by simpa using hc
        rw [this]; decide
      · cases hc
    · exact ne10 c (h2 c hc)
    · rw [hc]; decide
    · rw [hc]; exact ne10 _ hd1
    · rw [hc]; exact ne10 _ hd2
  · unfold printL
    by_cases hn : n < 0
    · rw [if_pos hn]
      exact ⟨45, _, rfl, by decide⟩
    · rw [if_neg hn]
      cases hq : Lib.decDigits (n.natAbs / 100) with
      | nil => rw [hq] at h3; simp at h3
      | cons c t => exact ⟨c, _, rfl, ne46 c (h2 c (by rw [hq]; simp))⟩
theorem name_bytes {s : ByteArray} (h : ∀ j, j < s.size → letB (bt s j) = true) : ∀ c ∈ s.data.toList, c ≠ 10 ∧ c ≠ 46 := by
  intro c hc
  obtain ⟨j, hj, rfl⟩ := List.mem_iff_getElem.1 hc
  have hj' : j < s.size := by rw [size_toList]; exact hj
  have h1 := h j hj'
  have h2 : 97 ≤ bt s j ∧ bt s j ≤ 122 := of_decide_eq_true h1
  rw [bt_in hj'] at h2
  have e : s.data.toList[j] = s[j] := by simp [ByteArray.getElem_eq_getElem_data]
  rw [e]
  constructor <;> intro q <;> rw [q] at h2 <;> revert h2 <;> decide
theorem sum_bytes : ∀ c ∈ sumT.data.toList, c ≠ 10 ∧ c ≠ 46 := by decide
/-- A line is read as what it was printed of. -/
theorem body_read {r : Am} {x : Int} (hn : ∀ c ∈ r.name.data.toList, c ≠ 10 ∧ c ≠ 46) (hm : monB r.mon = true) (hf : fitA r x = true) (t : ByteArray) (ht : t.data.toList = bodyL r x) : readOne t = r := by
  obtain ⟨_, c, pt, hp, hc⟩ := print_bytes r.mon
  have h2 : 2 ≤ dotsA r x := of_decide_eq_true hf
  obtain ⟨d, hd⟩ : ∃ d : Nat, (dotsA r x).toNat = d + 1 := ⟨(dotsA r x).toNat - 1, by omega⟩
  have hb : t.data.toList = r.name.data.toList ++ 46 :: (List.replicate d 46 ++ printL r.mon) := by
    rw [ht]
    unfold bodyL
    rw [hd, List.replicate_succ]
    simp
  have hi : Lib.index t.data.toList [46] = (r.name.data.toList.length : Int) := by
    rw [hb]
    exact idx_hit fun q => (hn 46 q).2 rfl
  have hcut : Lib.cut t.data.toList [46] = (r.name.data.toList, List.replicate d 46 ++ printL r.mon, true) := by
    unfold Lib.cut
    rw [hi, if_pos (by omega), Int.toNat_natCast, hb, List.take_left' rfl]
    have e : (r.name.data.toList ++ 46 :: (List.replicate d 46 ++ printL r.mon)).drop (r.name.data.toList.length + [(46 : UInt8)].length) = List.replicate d 46 ++ printL r.mon := by
      rw [← List.drop_drop, List.drop_left' rfl]
      rfl
    rw [e]
  have hname : nameP t = r.name := ba_ext (by simp [nameP, hcut])
  have hrest : (restP t).data.toList = List.replicate d 46 ++ printL r.mon := by simp [restP, hcut]
  have htrim : (trimP (restP t)).data.toList = printL r.mon := by
    have e : (trimP (restP t)).data.toList = Lib.trimLeftB (restP t).data.toList 46 := by simp [trimP]
    rw [e, hrest]
    unfold Lib.trimLeftB
    clear hb hi hcut hname hrest e hd
    induction d with
    | zero =>
      rw [hp]
      simp [hc]
    | succ d ih => simpa [List.replicate_succ] using ih
  have hread := (print_read hm htrim).2
  unfold readOne
  rw [hname, hread]
def bodies (l : List Am) (x : Int) : Nat → List (List UInt8)
  | 0 => []
  | k + 1 => bodies l x k ++ [bodyL (anth l k) x]
theorem bodies_len (l : List Am) (x : Int) : ∀ k, (bodies l x k).length = k
  | 0 => rfl
  | k + 1 => by simp [bodies, bodies_len l x k]
theorem bodies_at (l : List Am) (x : Int) : ∀ (k j : Nat), j < k → (bodies l x k)[j]? = some (bodyL (anth l j) x)
  | 0, j, h => by omega
  | k + 1, j, h => by
    by_cases e : j = k
    · subst e
      simp [bodies, bodies_len]
    · rw [bodies, List.getElem?_append_left (by rw [bodies_len]; omega)]
      exact bodies_at l x k j (by omega)
theorem lines_feed (l : List Am) (x : Int) : ∀ k, linesL l x k = feedL (bodies l x k)
  | 0 => rfl
  | k + 1 => by
    rw [linesL, bodies, feedL_append, lines_feed l x k, lineL_body]
    rfl
theorem bodies_no {l : List Am} {x : Int} : ∀ {k : Nat}, (∀ j, j < k → ∀ c ∈ (anth l j).name.data.toList, c ≠ 10 ∧ c ≠ 46) → ∀ a ∈ bodies l x k, (10 : UInt8) ∉ a
  | 0, _, a, h => by simp [bodies] at h
  | k + 1, hn, a, h => by
    rw [bodies, List.mem_append] at h
    rcases h with h | h
    · exact bodies_no (fun j hj => hn j (by omega)) a h
    · obtain rfl : a = bodyL (anth l k) x := by simpa using h
      intro hc
      unfold bodyL at hc
      simp only [List.mem_append, List.mem_replicate] at hc
      rcases hc with (hc | hc) | hc
      · exact (hn k (by omega) 10 hc).1 rfl
      · exact absurd hc.2 (by decide)
      · exact (print_bytes _).1 10 hc rfl
/-- What is printed is read as it was. -/
theorem printed_read {l : List Am} {n : Nat} {x : Int} (hl : l.length = n) (h : shE l n x = 0) : rdL (shT l n x) = l ∧ rdW (shT l n x) = x ∧ ((shT l n x).size : Int) = ((n : Int) + 1) * (x + 1) := by
  have hck : chkE l n x = 0 := by
    by_cases e : chkE l n x = 0
    · exact e
    · rw [(shE_bad e).1] at h; exact absurd h e
  obtain ⟨⟨h20, h60⟩, h30, hall, _, hsm⟩ := chkE_zero hck
  have hfit : fits (withSum l n) x (n + 1) = true := by
    cases e : fits (withSum l n) x (n + 1)
    · rw [(shE_long hck e).1] at h; exact absurd h (by decide)
    · rfl
  have hfa := fits_all hfit
  have hT := (shE_ok hck hfit).2
  have hdat : (shT l n x).data.toList = linesL (withSum l n) x (n + 1) := by rw [hT]; simp [sheetL]
  have hnm : ∀ j, j < n + 1 → (∀ c ∈ (anth (withSum l n) j).name.data.toList, c ≠ 10 ∧ c ≠ 46) ∧ monB (anth (withSum l n) j).mon = true := fun j hj => by
    by_cases e : j < n
    · rw [withSum_at (by omega)]
      obtain ⟨q1, _, q3⟩ := wrA_zero (hall j e)
      exact ⟨name_bytes (of_decide_eq_true q1 : NameP _).2.2.1, q3⟩
    · obtain rfl : j = n := by omega
      rw [withSum_end hl]
      exact ⟨sum_bytes, hsm⟩
  have hlen : ((linesL (withSum l n) x (n + 1)).length : Int) = ((n + 1 : Nat) : Int) * (x + 1) := linesL_len hfa
  have hsz : ((shT l n x).size : Int) = ((n : Int) + 1) * (x + 1) := by
    rw [size_toList, hdat, hlen]
    push_cast
    rfl
  have hle : ¬ 1891 < (shT l n x).size := by
    have : ((n : Int) + 1) * (x + 1) ≤ 31 * 61 := Int.mul_le_mul (by omega) (by omega) (by omega) (by omega)
    omega
  have hno := bodies_no (l := withSum l n) (x := x) (k := n + 1) fun j hj => (hnm j hj).1
  have hcnt : cntF (shT l n x) = n + 1 := by
    show Lib.count (shT l n x).data.toList [10] = n + 1
    rw [hdat, lines_feed, feedL_count hno, bodies_len]
  have hparts : (parts (shT l n x)).map (·.data.toList) = bodies (withSum l n) x (n + 1) ++ [[]] := by
    unfold parts
    rw [Lib.splitB_data, hcnt, hdat, lines_feed]
    have := feedL_split hno
    rw [bodies_len] at this
    exact this
  have hpart : ∀ j, j < n + 1 → (part (shT l n x) j).data.toList = bodyL (anth (withSum l n) j) x := fun j hj => by
    have h1 : ((parts (shT l n x)).map (·.data.toList))[j]? = some (bodyL (anth (withSum l n) j) x) := by
      rw [hparts, List.getElem?_append_left (by rw [bodies_len]; exact hj)]
      exact bodies_at _ _ _ j hj
    rw [List.getElem?_map] at h1
    unfold part
    rw [List.getD_eq_getElem?_getD]
    cases hq : (parts (shT l n x))[j]? with
    | none => rw [hq] at h1; cases h1
    | some t => rw [hq] at h1; simpa using h1
  refine ⟨?_, ?_, hsz⟩
  · unfold rdL
    rw [if_neg hle, hcnt]
    apply List.ext_getElem
    · rw [readK_len]; omega
    · intro j h1 h2
      have hj : j < n := by omega
      have e1 : anth (readK (shT l n x) (n + 1 - 1)) j = anth l j := by
        rw [readK_at _ _ j (by omega)]
        have := body_read (hnm j (by omega)).1 (hnm j (by omega)).2 (hfa j (by omega)) _ (hpart j (by omega))
        rw [this, withSum_at (by omega)]
      have h1' : j < (readK (shT l n x) (n + 1 - 1)).length := h1
      unfold anth at e1
      rw [List.getD_eq_getElem?_getD, List.getD_eq_getElem?_getD, List.getElem?_eq_getElem h1', List.getElem?_eq_getElem h2] at e1
      exact e1
  · unfold rdW
    rw [if_neg hle, size_toList, hpart 0 (by omega)]
    have := lineL_len (hfa 0 (by omega))
    rw [lineL_body, List.length_append] at this
    simp at this
    omega
end Go.Proofs.YtmchanddfodhaaaDoor
