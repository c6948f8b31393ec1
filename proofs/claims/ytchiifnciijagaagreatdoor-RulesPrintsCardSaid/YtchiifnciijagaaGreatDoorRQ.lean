/-
  Promise F3: the reference's texts: a list of texts of the call's own; texts without their last blank.
  Promise F3: the reference's text of an expression is what is printed, without its last blank.
-/
import Derived.Test.YtchiifnciijagaaGreatDoorRE
import Derived.Test.YtchiifnciijagaaGreatDoorRL
import Derived.Test.YtchiifnciijagaaGreatDoorRD
import Derived.Test.YtchiifnciijagaaGreatDoorRS
import Derived.Lib.OwnBridge
set_option linter.unusedSimpArgs false
namespace Go.Proofs.YtchiifnciijagaaGreatDoor
open Go.RowKit

theorem info_str : (Tryz.prog.info? 9).map (fun i => (i.zero, i.size, i.bytes)) = some (some (.string ⟨#[]⟩), 1, 16) := by kernel_rfl
/-- The slice v, nil or of the call's own from block B on, holds the texts l. -/
def GrS (w : World) (B : Nat) (v : Value) (l : List ByteArray) : Prop := w.ownsRow B 9 1 v l.length (l.map Value.string)
theorem GrS.nil (w : World) (B : Nat) : GrS w B (.slice none 0 0) [] := World.ownsRow_nil _ _ _ _
theorem GrS.lt {w : World} {B : Nat} {v : Value} {l : List ByteArray} (h : GrS w B v l) : ∀ k, v.ownBlock = some k → B ≤ k ∧ k < w.heap.size := World.ownsRow.lt h
theorem GrS.below {w w' : World} {B : Nat} {v : Value} {l : List ByteArray} (h : GrS w B v l) (hb : Below w.heap.size w w') : GrS w' B v l := by
  cases hv : v.ownBlock with
  | none =>
    rcases h.2 with ⟨rfl, h2⟩ | ⟨g, cap, cur, rfl, _⟩
    · have : l = [] := List.eq_nil_of_length_eq_zero h2
      subst this
      exact GrS.nil _ _
    · cases hv
  | some k =>
    have hk := (h.lt k hv).2
    obtain ⟨h1, h2⟩ := h
    refine ⟨h1, h2.imp id ?_⟩
    rintro ⟨g, cap, cur, e, hg, hblk, r⟩
    refine ⟨g, cap, cur, e, hg, ?_, r⟩
    subst e
    injection hv with hv
    subst hv
    exact (hb.block g hk).trans hblk
theorem GrS.open {w : World} {B : Nat} {v : Value} {l : List ByteArray} (h : GrS w B v l) (h0 : 0 < l.length) : ∃ g c, v = .slice (some ⟨g, 0, none⟩) l.length c ∧ ∀ j (hj : j < l.length), w.cell? ⟨g, j, none⟩ = some (.string l[j]) := by
  have hh := h
  rcases h.2 with ⟨_, h2⟩ | ⟨g, c, cur, rfl, _⟩
  · omega
  · refine ⟨g, c, rfl, fun j hj => ?_⟩
    have := World.ownsRow.cells hh (g := g) rfl j (.string l[j]) (by simp [hj])
    rwa [Addr.add_lit, Nat.zero_add] at this
theorem step_app_s {ops : Array Oper} {o : Oper} {a : Act} {K : Act → World → Prop} {Q : Exit → Act → World → Prop} {E : Prop} (w : World) (hgd : o.guard = none) (s x : Operand)
    (ho : o.op = .call { callee := .builtin .append, args := #[s, x], argTypes := #[60, 60] })
    (B : Nat) (v : Value) (l : List ByteArray) (hs : a.eval s = v) (hown : GrS w B v l) (b c : Nat) (t : ByteArray) (hx : a.eval x = .slice (some ⟨b, 0, none⟩) 1 c) (h0 : w.cell? ⟨b, 0, none⟩ = some (.string t))
    (hb : l.length ≤ 1000) (hB : B ≤ w.heap.size)
    (h : ∀ v' w', GrS w' B v' (l ++ [t]) → w.grownBy w' v.ownBlock → K (a.put o.dst v') w') :
    if Region.wanted o (yielded ops a.tmps) = true then Oper.wp Tryz.prog o a w K Q else E := by
  have hw : Region.wanted o (yielded ops a.tmps) = true := by simp [Region.wanted, hgd]
  rw [if_pos hw]
  obtain ⟨i0, hi, hz0, hz1, hz2⟩ := info_parts info_str
  have hnews : ∀ j z, [Value.string t][j]? = some z → w.cell? ((⟨b, 0, none⟩ : Addr).add j) = some z := by
    intro j z hj
    match j, hj with
    | 0, hj => simp at hj; subst hj; simpa [Addr.add] using h0
  obtain ⟨v', w', hr, h2, h3, _, _⟩ := run_append_own_at (P := Tryz.prog) w B 60 o.type 9 i0 _ 1 16 Tryz.underlying60 hi hz0 hz1 hz2 rfl (by decide) v l.length (l.map Value.string) hown ⟨b, 0, none⟩ 1 c [.string t] rfl hnews (fun z hz => by simp at hz; subst hz; rfl) (by unfold maxLen; omega) (by omega) hB
  unfold Oper.wp execOp
  simp only [ho, resolve, invoke, builtin, Sem.run_bind, Sem.run_pure, Result.andThen_ok, List.map_toArray, List.map_cons, List.map_nil, hs, hx, hr]
  refine h v' w' ?_ h3
  unfold GrS
  rw [List.length_append, List.map_append]
  exact h2
/-- A text without its last blank. -/
def rT (l : List UInt8) : ByteArray := ⟨l.dropLast.toArray⟩
def endB (l : List UInt8) : Prop := ∃ q, l = q ++ [32]
theorem rT_end {l : List UInt8} (h : endB l) : (rT l).data.toList ++ [32] = l := by
  obtain ⟨q, rfl⟩ := h
  simp [rT]
theorem rT_is {l : List UInt8} {t : ByteArray} (h : t.data.toList ++ [32] = l) : t = rT l := by
  subst h
  exact Mny.ba_ext (by simp [rT])
theorem rT_size (l : List UInt8) : (rT l).size ≤ l.length := by
  have : (rT l).data.toList.length = (rT l).size := Array.length_toList
  rw [← this]
  show l.dropLast.length ≤ _
  rw [List.length_dropLast]
  omega
theorem endB.app {a b : List UInt8} (h : endB b) : endB (a ++ b) := by
  obtain ⟨q, rfl⟩ := h
  exact ⟨a ++ q, by rw [List.append_assoc]⟩
theorem endB_tks : ∀ (ts : List ByteArray), ts ≠ [] → endB (tksL ts)
  | [s], _ => ⟨s.data.toList, by simp [tksL, tkL]⟩
  | s :: t :: r, _ => by rw [tksL]; exact (endB_tks (t :: r) (by simp)).app
def inT (b : Bool) (x : Ex) : List UInt8 := if b then wrapT x.k x.txt else x.txt
theorem wrap_end {k : Int} {t : List UInt8} (h : endB t) : endB (wrapT k t) := by
  unfold wrapT
  split
  · exact (endB.app (endB_tks _ (by simp))).app
  · exact h
theorem txt_end : ∀ x : Ex, x.full → x.err = 0 → endB x.txt := by
  intro x
  induction x with
  | no => intro h; rw [Ex.full] at h; exact h.elim
  | mk k n s m kid ih =>
    intro hfu he
    obtain ⟨⟨hk1, hk13, hm, hn0, hn1⟩, hkd⟩ := mk_okP he
    have hi : ∀ j, j < m → endB (kid j).txt := fun j hj => ih j (full_kid hfu j hj) (hkd j hj)
    have hw : ∀ j, j < m → endB (wrapT (kid j).k (kid j).txt) := fun j hj => wrap_end (hi j hj)
    rw [txt_mk]
    have hc : k = 1 ∨ k = 2 ∨ k = 3 ∨ k = 4 ∨ k = 5 ∨ k = 6 ∨ k = 7 ∨ k = 8 ∨ k = 9 ∨ k = 10 ∨ k = 11 ∨ k = 12 ∨ k = 13 := by omega
    clear ih hkd hfu he hn0 hn1
    rcases hc with rfl | rfl | rfl | rfl | rfl | rfl | rfl | rfl | rfl | rfl | rfl | rfl | rfl <;> simp only [reduceIte, Int.reduceEq] <;> simp [kidsOf] at hm
    · exact endB_tks _ (by simp)
    · exact endB_tks _ (by simp)
    · exact endB_tks _ (by simp)
    · exact (hw 0 (by omega)).app
    · exact (hw 0 (by omega)).app
    · exact (hw 0 (by omega)).app
    · exact (hw 1 (by omega)).app.app
    · exact (hw 1 (by omega)).app.app
    · exact (endB_tks _ (by simp)).app
    · exact (endB_tks _ (by simp)).app
    · exact (endB_tks _ (by simp)).app.app.app.app
    · exact (endB_tks _ (by simp)).app.app.app.app
    · exact (hi 3 (by omega)).app.app.app.app.app
theorem inT_end {b : Bool} {x : Ex} (hf : x.full) (he : x.err = 0) : endB (inT b x) := by
  unfold inT
  split
  · exact wrap_end (txt_end x hf he)
  · exact txt_end x hf he
theorem inT_len (b : Bool) {x : Ex} (he : x.err = 0) (hp : x.parts ≤ 4000) : (inT b x).length ≤ 500000 := by
  have h1 := txt_len x he
  have h2 := wrap_len x.k x.txt
  unfold inT
  split <;> omega
/-- Where a Kid of a kind must stand as a part. -/
def flg (k : Int) (q : Nat) : Bool := decide (k < 11) || (k == 13 && decide (q < 2))
def kTs (k : Int) (kid : Nat → Ex) (j : Nat) : List ByteArray := (List.range j).map fun q => rT (inT (flg k q) (kid q))
theorem kTs_len (k : Int) (kid : Nat → Ex) (j : Nat) : (kTs k kid j).length = j := by simp [kTs]
theorem kTs_succ (k : Int) (kid : Nat → Ex) (j : Nat) : kTs k kid (j + 1) = kTs k kid j ++ [rT (inT (flg k j) (kid j))] := by simp [kTs, List.range_succ]
theorem kTs_at {k : Int} {kid : Nat → Ex} {j q : Nat} (h : q < (kTs k kid j).length) : (kTs k kid j)[q] = rT (inT (flg k q) (kid q)) := by simp [kTs]
/-- How long a text may be. -/
def Sz (t : ByteArray) (n : Nat) : Prop := t.size ≤ n
theorem Sz.app {a b : ByteArray} {m n : Nat} (ha : Sz a m) (hb : Sz b n) : Sz (a ++ b) (m + n) := by unfold Sz at *; rw [ByteArray.size_append]; omega
theorem Sz.run {a b : ByteArray} {m n : Nat} (ha : Sz a m) (hb : Sz b n) (h : m + n ≤ 9000000000) (w : World) : (Op.stringOp .add a b).run Tryz.prog w = .ok (.string (a ++ b)) w := run_string_add_sum w a b (by unfold Sz at *; omega)
theorem moneyText_m (n : Int) (w : World) (h : monB n = true) :
    Calls Tryz.prog 43 #[.int .i64 n] w fun e w' => e = .returned (.string (mT n)) ∧ Below w.heap.size w w' := by
  refine (Mny.moneyText_any n w h).mono ?_
  rintro e w' ⟨s, rfl, hs, hb⟩
  refine ⟨?_, hb⟩
  have : s = mT n := Mny.ba_ext (by rw [hs]; rfl)
  rw [this]
theorem digits_i (n : Int) (w : World) (h0 : 0 ≤ n) (h1 : n ≤ 1000000) :
    Calls Tryz.prog 44 #[.int .i64 n] w fun e w' => e = .returned (.string (iT n)) ∧ Below w.heap.size w w' := by
  refine (Mny.digits_any n.toNat n w h0 (by omega) (by omega)).mono ?_
  rintro e w' ⟨s, rfl, hs, _, hb⟩
  refine ⟨?_, hb⟩
  obtain ⟨u, rfl⟩ : ∃ u : Nat, n = (u : Int) := ⟨n.toNat, by omega⟩
  have : s = iT (u : Int) := Mny.ba_ext (by rw [hs.out, Int.toNat_natCast, ← Mny.itoa_nat]; rfl)
  rw [this]
end Go.Proofs.YtchiifnciijagaaGreatDoor
set_option linter.unusedSimpArgs false
namespace Go.Proofs.YtchiifnciijagaaGreatDoor
open Go.RowKit

/-- What the reference makes of an expression's text. -/
def RcX (b : Bool) (x : Ex) : Prop := ∀ (a : Option Addr) (c : Nat) (w : World), KidsAt w x a → Calls Tryz.prog 26 #[.agg #[.int .i64 x.k, .int .i64 x.n, .string x.s, .slice a x.m c], .bool b] w fun e w' => e = .returned (.string (rT (inT b x))) ∧ Below w.heap.size w w'
theorem Obx.four {w : World} {g : Nat} {v0 v1 v2 v3 : Value} {T : TypeId} (h : Obx w g [v0, v1, v2, v3] T) : w.cell? ⟨g, 0, none⟩ = some v0 ∧ w.cell? ⟨g, 1, none⟩ = some v1 ∧ w.cell? ⟨g, 2, none⟩ = some v2 ∧ w.cell? ⟨g, 3, none⟩ = some v3 := ⟨h.cell 0, h.cell 1, h.cell 2, h.cell 3⟩
theorem Obx.c0 {w : World} {g : Nat} {v0 v1 v2 v3 : Value} {T : TypeId} (h : Obx w g [v0, v1, v2, v3] T) : w.cell? ⟨g, 0, none⟩ = some v0 := h.cell 0
theorem Obx.c3 {w : World} {g : Nat} {v0 v1 v2 v3 : Value} {T : TypeId} (h : Obx w g [v0, v1, v2, v3] T) : w.cell? ⟨g, 3, none⟩ = some v3 := h.cell 3
theorem rfrom_drew {B : Nat} {w w' : World} (h : Below B w.drew w') : Below B w w' := (kbelow_dN (Below.refl B w) 1).trans h
theorem inT_t (x : Ex) : wrapT x.k x.txt = inT true x := by simp [inT]
theorem inT_f (x : Ex) : x.txt = inT false x := by simp [inT]
theorem rt_4 (n : Int) (s : ByteArray) (kid : Nat → Ex) (h0 : endB (inT true (kid 0))) : mT n ++ ⟨#[32, 37, 32, 111, 102, 32]⟩ ++ rT (inT true (kid 0)) = rT (Ex.mk 4 n s 1 kid).txt := by
  refine rT_is ?_
  rw [txt_mk]
  simp only [reduceIte, Int.reduceEq, inT_t]
  have e0 := rT_end h0
  generalize rT (inT true (kid 0)) = r0 at *
  rw [← e0]
  simp [tksL, tkL, ByteArray.data_append]
theorem rt_5 (n : Int) (s : ByteArray) (kid : Nat → Ex) (h0 : endB (inT true (kid 0))) : ⟨#[116, 97, 98, 108, 101, 32]⟩ ++ s ++ ⟨#[32, 111, 102, 32]⟩ ++ rT (inT true (kid 0)) = rT (Ex.mk 5 n s 1 kid).txt := by
  refine rT_is ?_
  rw [txt_mk]
  simp only [reduceIte, Int.reduceEq, inT_t]
  have e0 := rT_end h0
  generalize rT (inT true (kid 0)) = r0 at *
  rw [← e0]
  simp [tksL, tkL, ByteArray.data_append]
theorem rt_6 (n : Int) (s : ByteArray) (kid : Nat → Ex) (h0 : endB (inT true (kid 0))) : ⟨#[45, 32]⟩ ++ rT (inT true (kid 0)) = rT (Ex.mk 6 n s 1 kid).txt := by
  refine rT_is ?_
  rw [txt_mk]
  simp only [reduceIte, Int.reduceEq, inT_t]
  have e0 := rT_end h0
  generalize rT (inT true (kid 0)) = r0 at *
  rw [← e0]
  simp [tksL, tkL, ByteArray.data_append]
theorem rt_7 (n : Int) (s : ByteArray) (kid : Nat → Ex) (h0 : endB (inT true (kid 0))) (h1 : endB (inT true (kid 1))) : rT (inT true (kid 0)) ++ ⟨#[32, 43, 32]⟩ ++ rT (inT true (kid 1)) = rT (Ex.mk 7 n s 2 kid).txt := by
  refine rT_is ?_
  rw [txt_mk]
  simp only [reduceIte, Int.reduceEq, inT_t]
  have e0 := rT_end h0
  generalize rT (inT true (kid 0)) = r0 at *
  rw [← e0]
  have e1 := rT_end h1
  generalize rT (inT true (kid 1)) = r1 at *
  rw [← e1]
  simp [tksL, tkL, ByteArray.data_append]
theorem rt_8 (n : Int) (s : ByteArray) (kid : Nat → Ex) (h0 : endB (inT true (kid 0))) (h1 : endB (inT true (kid 1))) : rT (inT true (kid 0)) ++ ⟨#[32, 45, 32]⟩ ++ rT (inT true (kid 1)) = rT (Ex.mk 8 n s 2 kid).txt := by
  refine rT_is ?_
  rw [txt_mk]
  simp only [reduceIte, Int.reduceEq, inT_t]
  have e0 := rT_end h0
  generalize rT (inT true (kid 0)) = r0 at *
  rw [← e0]
  have e1 := rT_end h1
  generalize rT (inT true (kid 1)) = r1 at *
  rw [← e1]
  simp [tksL, tkL, ByteArray.data_append]
theorem rt_9 (n : Int) (s : ByteArray) (kid : Nat → Ex) (h0 : endB (inT true (kid 0))) : rT (inT true (kid 0)) ++ ⟨#[32, 42, 32]⟩ ++ iT n = rT (Ex.mk 9 n s 1 kid).txt := by
  refine rT_is ?_
  rw [txt_mk]
  simp only [reduceIte, Int.reduceEq, inT_t]
  have e0 := rT_end h0
  generalize rT (inT true (kid 0)) = r0 at *
  rw [← e0]
  simp [tksL, tkL, ByteArray.data_append]
theorem rt_10 (n : Int) (s : ByteArray) (kid : Nat → Ex) (h0 : endB (inT true (kid 0))) : rT (inT true (kid 0)) ++ ⟨#[32, 47, 32]⟩ ++ iT n = rT (Ex.mk 10 n s 1 kid).txt := by
  refine rT_is ?_
  rw [txt_mk]
  simp only [reduceIte, Int.reduceEq, inT_t]
  have e0 := rT_end h0
  generalize rT (inT true (kid 0)) = r0 at *
  rw [← e0]
  simp [tksL, tkL, ByteArray.data_append]
theorem rt_11 (n : Int) (s : ByteArray) (kid : Nat → Ex) (h0 : endB (inT false (kid 0))) (h1 : endB (inT false (kid 1))) : ⟨#[109, 105, 110, 32, 40, 32]⟩ ++ rT (inT false (kid 0)) ++ ⟨#[32, 44, 32]⟩ ++ rT (inT false (kid 1)) ++ ⟨#[32, 41]⟩ = rT (Ex.mk 11 n s 2 kid).txt := by
  refine rT_is ?_
  rw [txt_mk]
  simp only [reduceIte, Int.reduceEq, inT_t]
  rw [inT_f (kid 0)]
  rw [inT_f (kid 1)]
  have e0 := rT_end h0
  generalize rT (inT false (kid 0)) = r0 at *
  rw [← e0]
  have e1 := rT_end h1
  generalize rT (inT false (kid 1)) = r1 at *
  rw [← e1]
  simp [tksL, tkL, ByteArray.data_append]
theorem rt_12 (n : Int) (s : ByteArray) (kid : Nat → Ex) (h0 : endB (inT false (kid 0))) (h1 : endB (inT false (kid 1))) : ⟨#[109, 97, 120, 32, 40, 32]⟩ ++ rT (inT false (kid 0)) ++ ⟨#[32, 44, 32]⟩ ++ rT (inT false (kid 1)) ++ ⟨#[32, 41]⟩ = rT (Ex.mk 12 n s 2 kid).txt := by
  refine rT_is ?_
  rw [txt_mk]
  simp only [reduceIte, Int.reduceEq, inT_t]
  rw [inT_f (kid 0)]
  rw [inT_f (kid 1)]
  have e0 := rT_end h0
  generalize rT (inT false (kid 0)) = r0 at *
  rw [← e0]
  have e1 := rT_end h1
  generalize rT (inT false (kid 1)) = r1 at *
  rw [← e1]
  simp [tksL, tkL, ByteArray.data_append]
theorem rt_13 (n : Int) (s : ByteArray) (kid : Nat → Ex) (h0 : endB (inT true (kid 0))) (h1 : endB (inT true (kid 1))) (h2 : endB (inT false (kid 2))) (h3 : endB (inT false (kid 3))) : ⟨#[105, 102, 32]⟩ ++ rT (inT true (kid 0)) ++ ⟨#[32]⟩ ++ tsW n.toNat ++ ⟨#[32]⟩ ++ rT (inT true (kid 1)) ++ ⟨#[32, 116, 104, 101, 110, 32]⟩ ++ rT (inT false (kid 2)) ++ ⟨#[32, 101, 108, 115, 101, 32]⟩ ++ rT (inT false (kid 3)) = rT (Ex.mk 13 n s 4 kid).txt := by
  refine rT_is ?_
  rw [txt_mk]
  simp only [reduceIte, Int.reduceEq, inT_t]
  rw [inT_f (kid 2)]
  rw [inT_f (kid 3)]
  have e0 := rT_end h0
  generalize rT (inT true (kid 0)) = r0 at *
  rw [← e0]
  have e1 := rT_end h1
  generalize rT (inT true (kid 1)) = r1 at *
  rw [← e1]
  have e2 := rT_end h2
  generalize rT (inT false (kid 2)) = r2 at *
  rw [← e2]
  have e3 := rT_end h3
  generalize rT (inT false (kid 3)) = r3 at *
  rw [← e3]
  simp [tksL, tkL, ByteArray.data_append]
theorem rt_1 (n : Int) (s : ByteArray) (kid : Nat → Ex) : mT n = rT (Ex.mk 1 n s 0 kid).txt := by
  refine rT_is ?_
  rw [txt_mk]
  simp only [reduceIte, Int.reduceEq]
  simp [tksL, tkL, ByteArray.data_append]
theorem rt_2 (n : Int) (s : ByteArray) (kid : Nat → Ex) : s = rT (Ex.mk 2 n s 0 kid).txt := by
  refine rT_is ?_
  rw [txt_mk]
  simp only [reduceIte, Int.reduceEq]
  simp [tksL, tkL, ByteArray.data_append]
theorem rt_3 (n : Int) (s : ByteArray) (kid : Nat → Ex) : ⟨#[121, 101, 97, 114, 32]⟩ ++ s = rT (Ex.mk 3 n s 0 kid).txt := by
  refine rT_is ?_
  rw [txt_mk]
  simp only [reduceIte, Int.reduceEq]
  simp [tksL, tkL, ByteArray.data_append]
theorem rt_w {k n : Int} {s : ByteArray} {m : Nat} {kid : Nat → Ex} (hk : k = 7 ∨ k = 8 ∨ k = 9 ∨ k = 10 ∨ k = 13) (h : endB (inT false (Ex.mk k n s m kid))) : ⟨#[40, 32]⟩ ++ rT (inT false (Ex.mk k n s m kid)) ++ ⟨#[32, 41]⟩ = rT (inT true (Ex.mk k n s m kid)) := by
  refine rT_is ?_
  have e := rT_end h
  have e2 : inT true (Ex.mk k n s m kid) = tksL [⟨#[40]⟩] ++ (inT false (Ex.mk k n s m kid) ++ tksL [⟨#[41]⟩]) := by
    rcases hk with rfl | rfl | rfl | rfl | rfl <;> simp [inT, wrapT, Ex.k]
  rw [e2]
  generalize rT (inT false (Ex.mk k n s m kid)) = r at *
  rw [← e]
  simp [tksL, tkL, ByteArray.data_append]
end Go.Proofs.YtchiifnciijagaaGreatDoor
