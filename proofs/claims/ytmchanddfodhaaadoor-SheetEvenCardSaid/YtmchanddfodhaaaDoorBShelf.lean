/-
  strings.Builder's WriteString, laid at this seat out of the laying of strings.Repeat, whose closure holds it.
-/
import Derived.Test.YtmchanddfodhaaaDoorShelf
import Derived.Shelf.Strings.BuilderK
namespace Go.Proofs.YtmchanddfodhaaaDoor
open Go.RowKit Go.Shelf

theorem lays_write : Lays.n166 Tryd.prog sh_lays105_ren := { mixed := sh_lays105.mixed, f166 := sh_lays105.f166, f240 := sh_lays105.f240, f276 := sh_lays105.f276, t0 := sh_lays105.t0, a0 := sh_lays105.a0, z0 := sh_lays105.z0, v0 := sh_lays105.v0, t3 := sh_lays105.t3, a3 := sh_lays105.a3, z3 := sh_lays105.z3, v3 := sh_lays105.v3, t4 := sh_lays105.t4, a4 := sh_lays105.a4, z4 := sh_lays105.z4, v4 := sh_lays105.v4, t9 := sh_lays105.t9, a9 := sh_lays105.a9, z9 := sh_lays105.z9, v9 := sh_lays105.v9, t20 := sh_lays105.t20, a20 := sh_lays105.a20, z20 := sh_lays105.z20, v20 := sh_lays105.v20, t37 := sh_lays105.t37, a37 := sh_lays105.a37, z37 := sh_lays105.z37, v37 := sh_lays105.v37, t70 := sh_lays105.t70, a70 := sh_lays105.a70, z70 := sh_lays105.z70, v70 := sh_lays105.v70, t72 := sh_lays105.t72, a72 := sh_lays105.a72, z72 := sh_lays105.z72, v72 := sh_lays105.v72, t75 := sh_lays105.t75, a75 := sh_lays105.a75, z75 := sh_lays105.z75, v75 := sh_lays105.v75, t164 := sh_lays105.t164, a164 := sh_lays105.a164, z164 := sh_lays105.z164, v164 := sh_lays105.v164 }
theorem sh_WriteString (B b : Nat) (bs : List Value) (s : ByteArray) (w : World) (h : Lib.IsBuilder 42 5 B b bs w) (hlen : bs.length + s.size ≤ 140737488355328) (hBw : B ≤ w.heap.size) :
    Calls Tryd.prog 20 #[.pointer (some ⟨b, 0, none⟩), .string s] w fun e w' => e = .returned (.tuple #[.int .i64 s.size, .nilIface]) ∧ (Lib.BuilderAt 42 5 B b (.pointer (some ⟨b, 0, none⟩)) (bs ++ Lib.strCells s) w' ∧ Below B w w') :=
  Any.Builder_WriteString lays_write sh_Builder_Extra_105 B b bs s w h hlen hBw
theorem sh_WriteString_k (B b : Nat) (bs : List Value) (s : ByteArray) (w : World) (h : Lib.IsBuilderF 42 5 B b bs w) (hlen : bs.length + s.size ≤ 140737488355328) (hBw : B ≤ w.heap.size) :
    Calls Tryd.prog 20 #[.pointer (some ⟨b, 0, none⟩), .string s] w fun e w' => e = .returned (.tuple #[.int .i64 s.size, .nilIface]) ∧ (Lib.BuilderAtF 42 5 B b (.pointer (some ⟨b, 0, none⟩)) (bs ++ Lib.strCells s) w' ∧ Below B w w' ∧ Lib.OthersKept 5 (some b) w w') :=
  Any.Builder_WriteString_k lays_write sh_Builder_Extra_105 B b bs s w h hlen hBw
theorem sh_String_k (B b : Nat) (l : List UInt8) (w : World) (h : Lib.IsBuilderF 42 5 B b (Lib.byteCells l) w) (hBw : B ≤ w.heap.size) :
    Calls Tryd.prog 22 #[.pointer (some ⟨b, 0, none⟩)] w fun e w' => e = .returned (.string ⟨l.toArray⟩) ∧ (Lib.IsBuilderF 42 5 B b (Lib.byteCells l) w' ∧ Below B w w' ∧ Lib.OthersKept 5 (some b) w w') :=
  Any.Builder_String_any_k sh_lays169 sh_Builder_Extra_169 B b l w h hBw
end Go.Proofs.YtmchanddfodhaaaDoor
