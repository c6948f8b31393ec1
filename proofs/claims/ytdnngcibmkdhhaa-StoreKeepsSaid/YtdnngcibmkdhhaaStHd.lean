/-
  Promise S1: the sector of a head, and the head of a sector: the walks of store's sector and headOf.
-/
import Derived.Test.YtdnngcibmkdhhaaStFil
set_option linter.unusedSimpArgs false
namespace Go.Proofs.Ytdnngcibmkdhhaa
open Go.RowKit

theorem blt_of_cell {W : World} {p : Addr} {v : Value} (h : W.cell? p = some v) : p.block < W.heap.size := by
  unfold World.cell? at h
  by_cases hb : p.block < W.heap.size
  · exact hb
  · rw [Array.getElem?_eq_none (by omega)] at h
    cases h
/-- The sector that tells of a half, and of a length. -/
def hdP (f n : Nat) : ByteArray := ⟨#[f.toUInt8, (n / 256).toUInt8, n.toUInt8]⟩
def hdT (f n : Nat) : ByteArray := fillT (hdP f n)
theorem two_fr (w : World) (u v : Value) (T : TypeId) : (w.alloc (.cells #[u, v] T)).frozen? ⟨w.heap.size, 0, none⟩ = false ∧ (w.alloc (.cells #[u, v] T)).frozen? ⟨w.heap.size, 1, none⟩ = false := by
  constructor <;> simp
theorem put2 {w : World} {b : Nat} {u v : Value} (x y : Value) (h0 : w.cell? ⟨b, 0, none⟩ = some u) (h1 : w.cell? ⟨b, 1, none⟩ = some v) : (w.setCell ⟨b, 0, none⟩ x).cell? ⟨b, 0, none⟩ = some x ∧ ((w.setCell ⟨b, 0, none⟩ x).setCell ⟨b, 1, none⟩ y).cell? ⟨b, 1, none⟩ = some y := by
  refine ⟨World.cell?_setCell_same _ _ _ h0, World.cell?_setCell_same _ _ _ (?_ : _ = some v)⟩
  rw [World.cell?_setCell_other (h := fun e => by injection e with _ e _; cases e)]
  exact h1
theorem txt_ne {u t : ByteArray} (h : u ≠ t) : (u.toList == t.toList) = false := by
  rw [beq_eq_false_iff_ne]
  intro e
  rw [ByteArray.toList_eq, ByteArray.toList_eq] at e
  exact h (ByteArray.ext (Array.toList_inj.1 e))
theorem two_of (w : World) (u v : Value) (T : TypeId) : (w.alloc (.cells #[u, v] T)).cell? ⟨w.heap.size, 0, none⟩ = some u ∧ (w.alloc (.cells #[u, v] T)).cell? ⟨w.heap.size, 1, none⟩ = some v := by
  constructor <;> simp
theorem conv3 (W : World) (x y z : UInt8) (T : TypeId) : (convert 41 9 (.slice (some ⟨W.heap.size, 0, none⟩) 3 3)).run Try.prog (W.alloc (.cells #[.int .u8 (x.toNat : Int), .int .u8 (y.toNat : Int), .int .u8 (z.toNat : Int)] T)) = .ok (.string ⟨#[x, y, z]⟩) (W.alloc (.cells #[.int .u8 (x.toNat : Int), .int .u8 (y.toNat : Int), .int .u8 (z.toNat : Int)] T)) := by
  refine run_convert_bytes_back (W.alloc (.cells #[.int .u8 (x.toNat : Int), .int .u8 (y.toNat : Int), .int .u8 (z.toNat : Int)] T)) 41 9 5 ⟨W.heap.size, 0, none⟩ 3 [x, y, z] Try.underlying41 Try.underlying5 Try.underlying9 fun j hj => ?_
  have : j = 0 ∨ j = 1 ∨ j = 2 := by simp at hj; omega
  rcases this with rfl | rfl | rfl <;> simp [Addr.add]
theorem u8_nat {f : Nat} (h : f ≤ 255) : ((f.toUInt8.toNat : Nat) : Int) = (f : Int) := by
  have : f.toUInt8.toNat = f % 256 := by simp
  rw [this]
  omega
set_option maxRecDepth 100000 in
set_option maxHeartbeats 1000000 in
theorem sector_any (f n : Nat) (w : World) (hf : f ≤ 255) (hn : n ≤ 65535) :
    Calls Try.prog 29 #[.agg #[.int .i64 f, .int .i64 n]] w fun e w' => e = .returned (.string (hdT f n)) ∧ Below w.heap.size w w' := by
  have HF := Lib.hid (fun w => filled_any (hdP f n) w (by show 3 ≤ 64; omega))
  have HB := Lib.hid (kbelow_box w (.cells #[.int .i64 f, .int .i64 n] 48))
  have hcv := conv3 (w.alloc (.cells #[.int .i64 f, .int .i64 n] 48)) f.toUInt8 (n / 256).toUInt8 n.toUInt8 5
  have hs : (w.alloc (.cells #[.int .i64 f, .int .i64 n] 48)).heap.size = w.heap.size + 1 := by simp
  have e1 : ((n.toUInt8.toNat : Nat) : Int) = (n : Int) % 256 := by
    have : n.toUInt8.toNat = n % 256 := by simp
    rw [this]; omega
  have e2 : (((n / 256).toUInt8.toNat : Nat) : Int) = (n : Int) / 256 := by rw [u8_nat (by omega)]; omega
  rw [hs, u8_nat hf, e1, e2] at hcv
  have HB2 := Lib.hid (HB.out.alloc HB.out.size (.cells #[.int .u8 (f : Int), .int .u8 ((n : Int) / 256), .int .u8 ((n : Int) % 256)] 5))
  clear hs e1 e2
  go_enter Try.func29, Try.ntmps29
  go_wp2_with fail
  refine (HF.out _).mono ?_
  rintro e w1 ⟨rfl, hb⟩
  have HB3 := Lib.hid (HB2.out.trans (hb.mono HB2.out.size))
  clear hb hcv
  go_wp2_with fail
  go_ret
  exact ⟨rfl, HB3.out⟩
/-- What a sector tells: half and length. -/
def hdN (t : ByteArray) (j : Nat) : Nat := (t.data.getD j 0).toNat
def hdH (t : ByteArray) : Nat := hdN t 0
def hdL (t : ByteArray) : Nat := hdN t 1 * 256 + hdN t 2
/-- Is it a sector that a store wrote? -/
def hdB (t : ByteArray) : Bool := decide (hdH t ≤ 1) && (decide (hdL t ≤ 2000) && decide (hdT (hdH t) (hdL t) = t))
/-- What headOf answers. -/
def HdR (B : Bool) (H L : Nat) (w : World) (e : Ending) (w' : World) : Prop := Below w.heap.size w w' ∧ ((B = true ∧ e = .returned (.tuple #[.agg #[.int .i64 (H : Int), .int .i64 (L : Int)], .int .i64 0])) ∨ (B = false ∧ e = .returned (.tuple #[.agg #[.int .i64 0, .int .i64 0], .int .i64 1])))
theorem hdN_lt (t : ByteArray) (j : Nat) : hdN t j < 256 := by
  unfold hdN
  exact UInt8.toNat_lt _
theorem hdN_at {t : ByteArray} {j : Nat} (h : j < t.size) : hdN t j = t[j].toNat := by
  unfold hdN
  have h' : j < t.data.size := h
  rw [Array.getD_eq_getD_getElem?, Array.getElem?_eq_getElem h']
  rfl
theorem hd_wrap {t : ByteArray} {j : Nat} (h : j < t.size) : wrap64 ((t[j].toNat : Nat) : Int) = (hdN t j : Int) := by
  rw [hdN_at h]
  have := hdN_lt t j
  rw [hdN_at h] at this
  unfold wrap64
  omega
theorem hd_wrap2 (t : ByteArray) (j : Nat) : wrap64 ((hdN t j : Int) * 256) = (hdN t j : Int) * 256 := by
  have := hdN_lt t j
  unfold wrap64
  omega
theorem hd_or (a b : Nat) (ha : a < 256) (hb : b < 256) : bits .or .i64 ((a : Int) * 256) (b : Int) = ((a * 256 + b : Nat) : Int) := by
  have hx : a * 256 ||| b < 2 ^ 16 := Nat.or_lt_two_pow (by omega) (by omega)
  have h1 : (BitVec.ofInt 64 ((a * 256 : Nat) : Int)).toNat = a * 256 := by
    rw [BitVec.ofInt_natCast, BitVec.toNat_ofNat]; exact Nat.mod_eq_of_lt (by omega)
  have h2 : (BitVec.ofInt 64 (b : Int)).toNat = b := by
    rw [BitVec.ofInt_natCast, BitVec.toNat_ofNat]; exact Nat.mod_eq_of_lt (by omega)
  have h3 : a * 256 + b = a * 256 ||| b := by
    have := Nat.two_pow_add_eq_or_of_lt (i := 8) (b := b) (by omega) a
    rw [show (2 : Nat) ^ 8 = 256 by decide, Nat.mul_comm] at this
    exact this
  rw [show (a : Int) * 256 = ((a * 256 : Nat) : Int) by omega, h3]
  show IntKind.i64.wrap ((BitVec.ofInt 64 ((a * 256 : Nat) : Int) ||| BitVec.ofInt 64 (b : Int)).toNat : Int) = _
  rw [BitVec.toNat_or, h1, h2, IntKind.wrap_i64]
  omega
theorem bel_two (w : World) (o o' : Obj) : Below w.heap.size w ((w.alloc o).alloc o') := (kbelow_box w o).alloc (kbelow_box w o).size o'
set_option maxRecDepth 100000 in
set_option maxHeartbeats 2000000 in
theorem headOf_any (t : ByteArray) (w : World) (ht : t.size = 64) :
    Calls Try.prog 23 #[.string t] w fun e w' => HdR (hdB t) (hdH t) (hdL t) w e w' := by
  have h0n : 0 < t.size := by omega
  have h1n : 1 < t.size := by omega
  have h2n : 2 < t.size := by omega
  have h0 : (0 : Int) < (t.size : Int) := by omega
  have h1 : (1 : Int) < (t.size : Int) := by omega
  have h2 : (2 : Int) < (t.size : Int) := by omega
  have hw0 : wrap64 ((t[0].toNat : Nat) : Int) = (hdH t : Int) := hd_wrap h0n
  have hw1 : wrap64 ((t[1].toNat : Nat) : Int) = (hdN t 1 : Int) := hd_wrap h1n
  have hw2 : wrap64 ((t[2].toNat : Nat) : Int) = (hdN t 2 : Int) := hd_wrap h2n
  have hw3 : wrap64 ((hdN t 1 : Int) * 256) = (hdN t 1 : Int) * 256 := hd_wrap2 t 1
  have hor : bits .or .i64 ((hdN t 1 : Int) * 256) (hdN t 2 : Int) = (hdL t : Int) := hd_or _ _ (hdN_lt t 1) (hdN_lt t 2)
  have HS := Lib.hid (fun w (h1 : hdH t ≤ 1) (h2 : hdL t ≤ 2000) => sector_any (hdH t) (hdL t) w (by omega) (by omega))
  have HBO : Hid (hdB t = (decide (hdH t ≤ 1) && (decide (hdL t ≤ 2000) && decide (hdT (hdH t) (hdL t) = t)))) := rfl
  generalize hdB t = B at *
  generalize hdH t = H at *
  generalize hdL t = L at *
  clear ht
  have HB := Lib.hid (bel_two w (.cells #[.int .i64 0, .int .i64 0] 48) (.cells #[.int .i64 (H : Int), .int .i64 (L : Int)] 48))
  go_enter Try.func23, Try.ntmps23
  go_wp2_with fail
  go_region
  clear hw0 hw1 hw2 hw3 hor
  have hb1 := two_of (w.alloc (.cells #[.int .i64 0, .int .i64 0] 48)) (.int .i64 (H : Int)) (.int .i64 (L : Int)) 48
  have hsz : (w.alloc (.cells #[.int .i64 0, .int .i64 0] 48)).heap.size = w.heap.size + 1 := by simp
  rw [hsz] at hb1
  have hR := two_of w (.int .i64 0) (.int .i64 0) 48
  by_cases c1 : H ≤ 1
  · have hB1 : decide ((1 : Int) < (H : Int)) = false := decide_eq_false (by omega)
    by_cases c2 : L ≤ 2000
    · have hB2 : decide ((2000 : Int) < (L : Int)) = false := decide_eq_false (by omega)
      have HSC := Lib.hid (fun w => HS.out w c1 c2)
      have HBF : Hid (B = decide (hdT H L = t)) := Lib.hid (by rw [HBO.out, decide_eq_true c1, decide_eq_true c2]; rfl)
      clear c1 c2
      generalize hdT H L = u at *
      go_wp2_with fail
      refine (HSC.out _).mono ?_
      rintro e w1 ⟨rfl, hb⟩
      have HB1 := Lib.hid ((kbelow_dN HB.out 1).trans (hb.mono (kbelow_dN HB.out 1).size))
      have HB11 := Lib.hid hb
      have y0 : w1.cell? ⟨w.heap.size + 1, 0, none⟩ = some (.int .i64 (H : Int)) := (hb.cell (p := ⟨w.heap.size + 1, 0, none⟩) (by simp)).trans hb1.1
      have y1 : w1.cell? ⟨w.heap.size + 1, 1, none⟩ = some (.int .i64 (L : Int)) := (hb.cell (p := ⟨w.heap.size + 1, 1, none⟩) (by simp)).trans hb1.2
      have hk := kbelow_box (w.alloc (.cells #[.int .i64 0, .int .i64 0] 48)) (.cells #[.int .i64 (H : Int), .int .i64 (L : Int)] 48)
      have hF := two_fr w (.int .i64 0) (.int .i64 0) 48
      have r0 : w1.cell? ⟨w.heap.size, 0, none⟩ = some (.int .i64 0) := (hb.cell (p := ⟨w.heap.size, 0, none⟩) (by simp; omega)).trans ((hk.cell (p := ⟨w.heap.size, 0, none⟩) (by simp)).trans hR.1)
      have r1 : w1.cell? ⟨w.heap.size, 1, none⟩ = some (.int .i64 0) := (hb.cell (p := ⟨w.heap.size, 1, none⟩) (by simp; omega)).trans ((hk.cell (p := ⟨w.heap.size, 1, none⟩) (by simp)).trans hR.2)
      have f0 : w1.frozen? ⟨w.heap.size, 0, none⟩ = false := (hb.frozen (p := ⟨w.heap.size, 0, none⟩) (by simp; omega)).trans ((hk.frozen (p := ⟨w.heap.size, 0, none⟩) (by simp)).trans hF.1)
      have f1 : w1.frozen? ⟨w.heap.size, 1, none⟩ = false := (hb.frozen (p := ⟨w.heap.size, 1, none⟩) (by simp; omega)).trans ((hk.frozen (p := ⟨w.heap.size, 1, none⟩) (by simp)).trans hF.2)
      clear hb hb1 hR hk hF
      by_cases hut : u = t
      · subst hut
        have HBT : Hid (B = true) := Lib.hid (by rw [HBF.out]; exact decide_eq_true rfl)
        go_wp2_with fail
        obtain ⟨q0, q1⟩ := put2 (.int .i64 (H : Int)) (.int .i64 (L : Int)) r0 r1
        refine bodyPost_ret (v := .tuple #[.agg #[.int .i64 (H : Int), .int .i64 (L : Int)], .int .i64 0]) (by simp [results, Try.results23, go_sem, q0, q1] <;> rfl) rfl ?_
        exact ⟨(HB1.out.setCell (p := ⟨w.heap.size, 0, none⟩) (Nat.le_refl _) _).setCell (p := ⟨w.heap.size, 1, none⟩) (Nat.le_refl _) _, .inl ⟨HBT.out, rfl⟩⟩
      · have HBT : Hid (B = false) := Lib.hid (by rw [HBF.out]; exact decide_eq_false hut)
        have hTL := txt_ne hut
        go_wp2_with fail
        obtain ⟨q0, q1⟩ := put2 (.int .i64 0) (.int .i64 0) r0 r1
        refine bodyPost_ret (v := .tuple #[.agg #[.int .i64 0, .int .i64 0], .int .i64 1]) (by simp [results, Try.results23, go_sem, q0, q1] <;> rfl) rfl ?_
        exact ⟨(HB1.out.setCell (p := ⟨w.heap.size, 0, none⟩) (Nat.le_refl _) _).setCell (p := ⟨w.heap.size, 1, none⟩) (Nat.le_refl _) _, .inr ⟨HBT.out, rfl⟩⟩
    · have hB2 : decide ((2000 : Int) < (L : Int)) = true := decide_eq_true (by omega)
      have HBF : Hid (B = false) := Lib.hid (by rw [HBO.out, decide_eq_true c1, decide_eq_false c2]; rfl)
      clear c1 c2 
      go_wp2_with fail
      refine bodyPost_ret (v := .tuple #[.agg #[.int .i64 0, .int .i64 0], .int .i64 1]) (by simp [results, Try.results23, go_sem] <;> rfl) rfl ?_
      exact ⟨kbelow_dN HB.out 1, .inr ⟨HBF.out, rfl⟩⟩
  · have hB1 : decide ((1 : Int) < (H : Int)) = true := decide_eq_true (by omega)
    have HBF : Hid (B = false) := Lib.hid (by rw [HBO.out, decide_eq_false c1]; rfl)
    clear c1 
    go_wp2_with fail
    refine bodyPost_ret (v := .tuple #[.agg #[.int .i64 0, .int .i64 0], .int .i64 1]) (by simp [results, Try.results23, go_sem] <;> rfl) rfl ?_
    exact ⟨kbelow_dN HB.out 1, .inr ⟨HBF.out, rfl⟩⟩
end Go.Proofs.Ytdnngcibmkdhhaa
