/-
  Promise S1: a whole sector of a piece: the walk of store's filled.
-/
import Derived.Test.YtdnngcibmkdhhaaStRd
import Derived.Laws.IdiomCopy
import Derived.Laws.IdiomStrings
namespace Go.Proofs.Ytdnngcibmkdhhaa
open Go.RowKit

theorem kbelow_box (w : World) (o : Obj) : Below w.heap.size w (w.alloc o) := (Below.refl w.heap.size w).alloc (Nat.le_refl _) o
theorem kbelow_dN {B : Nat} {a w : World} (h : Below B a w) : ∀ k, Below B a (w.drewN k)
  | _ => ⟨h.os, h.tape, h.output, h.size, h.block⟩
def bytesV (p : ByteArray) : List Value := p.data.toList.map fun b => .int .u8 (b.toNat : Int)
theorem bytesV_len (p : ByteArray) : (bytesV p).length = p.size := by simp [bytesV]
theorem run_copy_text (w : World) (dT sT ty elem : TypeId) (b dLen dCap : Nat) (p : ByteArray) (hu : Try.prog.underlying dT = some (.slice elem)) (hs : (Try.prog.info? elem).map (·.size) = some 1) (hn : p.size ≤ dLen)
    (hc : ∀ j, j < p.size → (w.cell? ⟨b, j, none⟩).isSome = true) (hf : ∀ j, j < p.size → w.frozen? ⟨b, j, none⟩ = false) :
    (Builtin.copy_ #[dT, sT] ty #[.slice (some ⟨b, 0, none⟩) dLen dCap, .string p]).run Try.prog w = .ok (goInt p.size) (w.setCells b 0 (bytesV p)) := by
  have hst := run_storeCells_cells (P := Try.prog) b 0 (bytesV p) 0 w (by simpa [bytesV_len] using hc) (by simpa [bytesV_len] using hf) (fun v hv => by
    simp only [bytesV, List.mem_map] at hv
    obtain ⟨x, _, rfl⟩ := hv
    rfl)
  have hmin : Nat.min p.size dLen = p.size := Nat.min_eq_left hn
  have htk : List.take p.size (List.map (fun b : UInt8 => Value.int .u8 (b.toNat : Int)) p.data.toList) = List.map (fun b : UInt8 => Value.int .u8 (b.toNat : Int)) p.data.toList := List.take_of_length_le (by simp)
  cases hq : Try.prog.info? elem with
  | none => simp [hq] at hs
  | some i =>
    unfold bytesV at hst ⊢
    simp [Builtin.copy_, run_underlying hu, Builtin.lenOf, Builtin.firstCells, sizeOf, typeInfo, hq, hmin, htk, hst]
/-- A piece, with noughts behind it. -/
def fillL (p : ByteArray) : List UInt8 := p.data.toList ++ List.replicate (64 - p.size) 0
def fillT (p : ByteArray) : ByteArray := ⟨(fillL p).toArray⟩
theorem fillL_len {p : ByteArray} (h : p.size ≤ 64) : (fillL p).length = 64 := by
  have : p.data.toList.length = p.size := by simp
  simp only [fillL, List.length_append, List.length_replicate, this]
  omega
theorem fillT_size {p : ByteArray} (h : p.size ≤ 64) : (fillT p).size = 64 := fillL_len h
theorem info_u8 : (Try.prog.info? 5).map (·.size) = some 1 := by kernel_rfl
theorem fill_cells (p : ByteArray) (h : p.size ≤ 64) (W : World) (b : Nat) (hz : ∀ j, j < 64 → W.cell? ⟨b, j, none⟩ = some (.int .u8 0)) : ∀ j (hj : j < (fillL p).length), (W.setCells b 0 (bytesV p)).cell? ((⟨b, 0, none⟩ : Addr).add j) = some (.int .u8 (((fillL p)[j]).toNat : Int)) := by
  intro j hj
  have hl := fillL_len h
  rw [Addr.add_lit, Nat.zero_add]
  have hpl : p.data.toList.length = p.size := by simp
  by_cases hjp : j < p.size
  · have hin := World.cell?_setCells_in b (bytesV p) 0 W (fun q hq => by rw [Nat.zero_add, hz q (by rw [bytesV_len] at hq; omega)]; rfl) j (by rw [bytesV_len]; exact hjp)
    rw [Nat.zero_add] at hin
    rw [hin]
    simp only [bytesV, List.getElem_map, fillL, Option.some.injEq, Value.int.injEq, true_and]
    rw [List.getElem_append_left (by omega)]
  · rw [World.cell?_setCells_out b (bytesV p) 0 W ⟨b, j, none⟩ (fun _ _ => .inr (by rw [bytesV_len]; show 0 + p.size ≤ j; omega)), hz j (by omega)]
    simp only [fillL, Option.some.injEq, Value.int.injEq, true_and]
    rw [List.getElem_append_right (by omega), List.getElem_replicate]
    rfl
theorem below_setCellsF {B : Nat} {a : World} : ∀ (vs : List Value) (g o : Nat) (w : World), Below B a w → B ≤ g → Below B a (w.setCells g o vs)
  | [], _, _, _, h, _ => h
  | v :: vs, g, o, _, h, hg => below_setCellsF vs g (o + 1) _ (h.setCell (p := ⟨g, o, none⟩) hg v) hg
theorem z64 : (#[.int .u8 0, .int .u8 0, .int .u8 0, .int .u8 0, .int .u8 0, .int .u8 0, .int .u8 0, .int .u8 0, .int .u8 0, .int .u8 0, .int .u8 0, .int .u8 0, .int .u8 0, .int .u8 0, .int .u8 0, .int .u8 0, .int .u8 0, .int .u8 0, .int .u8 0, .int .u8 0, .int .u8 0, .int .u8 0, .int .u8 0, .int .u8 0, .int .u8 0, .int .u8 0, .int .u8 0, .int .u8 0, .int .u8 0, .int .u8 0, .int .u8 0, .int .u8 0, .int .u8 0, .int .u8 0, .int .u8 0, .int .u8 0, .int .u8 0, .int .u8 0, .int .u8 0, .int .u8 0, .int .u8 0, .int .u8 0, .int .u8 0, .int .u8 0, .int .u8 0, .int .u8 0, .int .u8 0, .int .u8 0, .int .u8 0, .int .u8 0, .int .u8 0, .int .u8 0, .int .u8 0, .int .u8 0, .int .u8 0, .int .u8 0, .int .u8 0, .int .u8 0, .int .u8 0, .int .u8 0, .int .u8 0, .int .u8 0, .int .u8 0, .int .u8 0] : Array Value) = Array.replicate 64 (.int .u8 0) := rfl
theorem box64 (w : World) (T : TypeId) : ∀ j, j < 64 → (w.alloc (.cells (Array.replicate 64 (.int .u8 0)) T)).cell? ⟨w.heap.size, j, none⟩ = some (.int .u8 0) ∧ (w.alloc (.cells (Array.replicate 64 (.int .u8 0)) T)).frozen? ⟨w.heap.size, j, none⟩ = false := fun j hj => by
  constructor
  · rw [World.cell?_alloc_at (w := w) _ _ _ _ rfl]; simp [hj]
  · rw [World.frozen?_alloc_at (w := w) _ _ _ _ rfl]
set_option linter.unusedSimpArgs false
set_option maxRecDepth 100000 in
set_option maxHeartbeats 1000000 in
theorem filled_any (p : ByteArray) (w : World) (hp : p.size ≤ 64) :
    Calls Try.prog 28 #[.string p] w fun e w' => e = .returned (.string (fillT p)) ∧ Below w.heap.size w w' := by
  have hz := box64 w 67
  have hcp := run_copy_text (w.alloc (.cells (Array.replicate 64 (.int .u8 0)) 67)) 41 9 3 5 w.heap.size 64 64 p Try.underlying41 info_u8 hp (fun j hj => by rw [(box64 w 67 j (by omega)).1]; rfl) (fun j hj => (box64 w 67 j (by omega)).2)
  have hcv := run_convert_bytes_back ((w.alloc (.cells (Array.replicate 64 (.int .u8 0)) 67)).setCells w.heap.size 0 (bytesV p)) 41 9 5 ⟨w.heap.size, 0, none⟩ 64 (fillL p) Try.underlying41 Try.underlying5 Try.underlying9 (fill_cells p hp _ w.heap.size fun j hj => (box64 w 67 j hj).1)
  rw [fillL_len hp] at hcv
  have HB := Lib.hid (below_setCellsF (bytesV p) w.heap.size 0 _ (kbelow_box w (.cells (Array.replicate 64 (.int .u8 0)) 67)) (Nat.le_refl _))
  rw [← z64] at hcp hcv HB
  clear hz
  go_enter Try.func28, Try.ntmps28
  go_wp2_with fail
  go_ret
  exact ⟨rfl, HB.out⟩
end Go.Proofs.Ytdnngcibmkdhhaa
