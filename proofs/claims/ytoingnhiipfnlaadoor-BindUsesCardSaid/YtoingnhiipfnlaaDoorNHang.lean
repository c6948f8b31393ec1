/-
  Promise H3: the walk of markUsed.
-/
import Derived.Test.YtoingnhiipfnlaaDoorNMarkE
namespace Go.Proofs.YtoingnhiipfnlaaDoor
open Go.RowKit Go.Maps Go.WideMaps

def UsedRet (w : World) (ub nu : Nat) (u : Nat → Bool) (e : Ending) (w' : World) : Prop := (∃ v, e = .returned v) ∧ URow w' ub nu u ∧ w.grownBy w' (some ub)
/-- Which line a line asks for by name. -/
def directB (l : List Ln) (p j : Nat) : Bool := (lnth l p).ex.hit (lastN (fun j => (lnth l j).name) p) j
set_option maxRecDepth 100000 in
set_option maxHeartbeats 2000000 in
theorem markUsed_any (a : Option Addr) (n cap : Nat) (l : List Ln) (p ub nu : Nat) (u : Nat → Bool) (w0 w : World) (hl : CameL w0 a l) (hn : l.length = n) (hm : n ≤ 40) (hcap : n ≤ cap) (hcm : cap ≤ maxLen) (hp : p < n) (hnu : p ≤ nu) (hnu' : nu ≤ 40) (hb : Below w0.heap.size w0 w) (hub : w0.heap.size ≤ ub) (hr : URow w ub nu u) :
    Calls Tryd.prog 76 #[.slice a n cap, .int .i64 p, .slice (some ⟨ub, 0, none⟩) nu nu] w fun e w' => UsedRet w ub nu (fun j => u j || directB l p j) e w' := by
  have hp' : (p : Int) < (n : Int) := by omega
  have hpc : (p : Int) ≤ (cap : Int) := by omega
  have hpc' : p ≤ cap := by omega
  have hcm' : cap ≤ 9223372036854775807 := by unfold maxLen at hcm; omega
  have HL := Lib.hid hl
  have HN := Lib.hid hn
  have HB := Lib.hid hb
  have HR := Lib.hid hr
  have HLF : Hid (∀ j, j < n → (lnth l j).name.size ≤ maxLen) := fun j hj => by
    obtain ⟨_, _, _, h⟩ := hl.open hn (by omega)
    obtain ⟨_, _, _, h, _⟩ := h w0 (Below.refl _ _) j hj
    exact h
  obtain ⟨b, off, rfl, hcell⟩ := hl.open hn (by omega)
  have HCELL := Lib.hid hcell
  clear hl hn hb hr hcell hcm
  have HB0 := Lib.hid (kbelow_box w (.cells #[.slice (some ⟨ub, 0, none⟩) nu nu] 75))
  go_enter Tryd.func76, Tryd.ntmps76
  go_wp2_with fail
  refine (placesN (some ⟨b, off, none⟩) p cap (l.take p) _ ((HL.out.take (by have := HN.out; omega)).below (HB.out.trans (HB0.out.mono HB.out.size))) (fun j hj => by rw [lnth_take hj]; exact HLF.out j (by omega)) (by have := HN.out; simp; omega) (by omega)).mono ?_
  rintro e w1 ⟨rfl, hm1, hb1⟩
  have HM1 := Lib.hid hm1
  have HB1 := Lib.hid (HB0.out.trans (hb1.mono HB0.out.size))
  have u0 := (hb1.cell (p := ⟨w.heap.size, 0, none⟩) (by simp)).trans (show (w.alloc (.cells #[.slice (some ⟨ub, 0, none⟩) nu nu] 75)).cell? ⟨w.heap.size, 0, none⟩ = some (.slice (some ⟨ub, 0, none⟩) nu nu) by simp)
  have HBB := Lib.hid (HB.out.trans (HB1.out.mono HB.out.size))
  obtain ⟨aj, cj, hc0, _, hk0⟩ := HCELL.out w0 (Below.refl _ _) p hp
  have HK0 := Lib.hid hk0
  obtain ⟨x0, x1, x2, x3, x4, x5⟩ := hc0.below HBB.out (blt_of_cell hc0.1)
  clear hk0 hc0
  clear hm1 hb1
  have HBX := Lib.hid (kbelow_box w1 (.cells #[.map (some (w.heap.size + 1))] 60))
  have hbl : b < w1.heap.size := blt_of_cell x0
  have e2 := (HBX.out.cell (p := ⟨b, off + p * 6 + 2, none⟩) hbl).trans x2
  have e3 := (HBX.out.cell (p := ⟨b, off + p * 6 + 3, none⟩) hbl).trans x3
  have e4 := (HBX.out.cell (p := ⟨b, off + p * 6 + 4, none⟩) hbl).trans x4
  have e5 := (HBX.out.cell (p := ⟨b, off + p * 6 + 5, none⟩) hbl).trans x5
  have hub1 : ub < w.heap.size := HR.out.1
  have hnb : ub ≠ w.heap.size := by omega
  have HBW := Lib.hid (HB1.out.trans (HBX.out.mono HB1.out.size))
  have HST : Hid (MSt w0 (w1.alloc (.cells #[.map (some (w.heap.size + 1))] 60)) w1.heap.size w.heap.size (w.heap.size + 1) p ub nu (lastN (fun j => (lnth l j).name) p) u) := by
    refine ⟨HB.out.trans (HBW.out.mono HB.out.size), by simp, (HBX.out.cell (p := ⟨w.heap.size, 0, none⟩) (blt_of_cell u0)).trans u0, ?_, HR.out.below HBW.out, ?_, by omega, by omega, hub, fun s q hq => Nat.lt_of_lt_of_le (lastN_lt hq) hnu⟩
    · have := HM1.out.below HBX.out
      rw [lastN_congr (h := fun j => (lnth l j).name) (fun j hj => by rw [lnth_take hj])] at this
      simpa using this
    · have := HB1.out.size; omega
  clear HM1 u0 hnb hub1
  go_wp2_with fail
  refine (every_mark w0 w1.heap.size w.heap.size (w.heap.size + 1) p ub nu (lastN (fun j => (lnth l j).name) p) hnu' (lnth l p).ex aj cj u _ HK0.out HST.out).mono ?_
  rintro e w9 ⟨rfl, hst9, hg9⟩
  have HU := Lib.hid hst9.2.2.2.2.1
  have HG := Lib.hid ((grown_of_below ub HBW.out).trans hg9)
  clear hst9 hg9 x0 x1 x2 x3 x4 x5 e2 e3 e4 e5
  go_wp2_with fail
  refine bodyPost_ret (v := .tuple #[]) (by simp [results, Tryd.results76, go_sem]) rfl ?_
  exact ⟨⟨_, rfl⟩, HU.out, HG.out⟩
/-- Which lines are used when t lines have been looked at, from the last one on down. -/
def usedN (l : List Ln) (last : Nat) : Nat → Nat → Bool
  | 0, _ => false
  | t + 1, j => if t = 0 ∨ usedN l last t (last - t) = true then usedN l last t j || directB l (last - t) j else usedN l last t j
end Go.Proofs.YtoingnhiipfnlaaDoor
