/-
  Promise E1, E2: the walk of split.
-/
import Derived.Test.YtgiacemmigjloaaDoorTLex
import Derived.Test.YtgiacemmigjloaaDoorTCatch
import Derived.Defers
import Derived.Recover
namespace Go.Proofs.YtgiacemmigjloaaDoor
open Go.RowKit

/-- The two results in their cells. -/
def PBox (w : World) (p : Nat) (v : Value) : Prop := (w.cell? ⟨p, 0, none⟩ = some v ∧ w.frozen? ⟨p, 0, none⟩ = false) ∧ (w.cell? ⟨p + 1, 0, none⟩ = some (.int .i64 0) ∧ w.frozen? ⟨p + 1, 0, none⟩ = false) ∧ (w.cell? ⟨p + 1, 1, none⟩ = some (.int .i64 0) ∧ w.frozen? ⟨p + 1, 1, none⟩ = false)
theorem PBox.made (w : World) (T U : TypeId) : PBox ((w.alloc (.cells #[.slice none 0 0] T)).alloc (.cells #[.int .i64 0, .int .i64 0] U)) w.heap.size (.slice none 0 0) := by
  refine ⟨⟨?_, ?_⟩, ⟨?_, ?_⟩, ⟨?_, ?_⟩⟩ <;> simp
theorem PBox.keep {w w' : World} {p : Nat} {v : Value} {B : Nat} (h : PBox w p v) (hb : Below B w w') (hB : p + 1 < B) : PBox w' p v := by
  have hp : p < B := by omega
  obtain ⟨⟨a0, a1⟩, ⟨b0, b1⟩, ⟨c0, c1⟩⟩ := h
  exact ⟨⟨(hb.cell (p := ⟨p, 0, none⟩) hp).trans a0, (hb.frozen (p := ⟨p, 0, none⟩) hp).trans a1⟩, ⟨(hb.cell (p := ⟨p + 1, 0, none⟩) hB).trans b0, (hb.frozen (p := ⟨p + 1, 0, none⟩) hB).trans b1⟩, ⟨(hb.cell (p := ⟨p + 1, 1, none⟩) hB).trans c0, (hb.frozen (p := ⟨p + 1, 1, none⟩) hB).trans c1⟩⟩
theorem GrowT.slice {w : World} {B : Nat} {v : Value} {l : List Tk} (h : GrowT w B v l) : ∃ x c, v = .slice x l.length c := by
  rcases h.form with ⟨h1, h2⟩ | ⟨g, c, h1, _⟩
  · subst h2; exact ⟨none, 0, h1⟩
  · exact ⟨_, c, h1⟩
theorem PBox.put {w : World} {p : Nat} {v : Value} (h : PBox w p v) (u : Value) : PBox (w.setCell ⟨p, 0, none⟩ u) p u := by
  obtain ⟨⟨a0, a1⟩, ⟨b0, b1⟩, ⟨c0, c1⟩⟩ := h
  have n0 : (⟨p, 0, none⟩ : Addr) ≠ ⟨p + 1, 0, none⟩ := fun e => by injection e; omega
  have n1 : (⟨p, 0, none⟩ : Addr) ≠ ⟨p + 1, 1, none⟩ := fun e => by injection e; omega
  refine ⟨⟨World.cell?_setCell_same _ _ _ a0, by rw [World.frozen?_setCell]; exact a1⟩, ⟨?_, by rw [World.frozen?_setCell]; exact b1⟩, ⟨?_, by rw [World.frozen?_setCell]; exact c1⟩⟩
  · rw [World.cell?_setCell_other (h := n0)]; exact b0
  · rw [World.cell?_setCell_other (h := n1)]; exact c0
set_option maxRecDepth 100000 in
set_option maxHeartbeats 1000000 in
theorem split_any (s : ByteArray) (w : World) (hs : s.size ≤ 4000) (hT : TabE w) :
    Calls Tryd.prog 13 #[.string s] w fun e w' => ∃ v er at', e = .returned (.tuple #[v, .agg #[.int .i64 er, .int .i64 at']]) ∧ SplitIs w' (w.heap.size + 2) s v er at' ∧ Below w.heap.size w w' := by
  have HT := Lib.hid hT
  have HP0 := Lib.hid (PBox.made w 22 25)
  have HB0 := Lib.hid (((Below.refl w.heap.size w).alloc (Nat.le_refl _) (.cells #[.slice none 0 0] 22)).alloc (by simp) (.cells #[.int .i64 0, .int .i64 0] 25))
  clear hT
  have hmf : ∀ (fn : Fn) (first cap : Array Value) (w : World), (Instr.makeFunc fn first cap).run Tryd.prog w = .ok (.func fn first cap) w := fun _ _ _ _ => rfl
  go_enter_defers Tryd.func13, Tryd.ntmps13
  go_wp2_with fail
  refine (gap_any s _ (by omega)).mono ?_
  rintro e w1 ⟨a0, rfl, hg, ha, hb⟩
  have HP1 := Lib.hid (HP0.out.keep hb (by simp))
  have HB1 := Lib.hid (HB0.out.trans (hb.mono HB0.out.size))
  have hsz1 : w.heap.size + 2 ≤ w1.heap.size := by have := hb.size; simp at this; omega
  have HG0 := Lib.hid hg
  clear hb hg HP0 HB0
  go_wp2_with fail
  go_loopw [4] (fun i wr => ∃ (a : Nat) (L : List Tk) (v : Value), i = .int .i64 a ∧ Toks s a L ∧ PBox wr w.heap.size v ∧ GrowT wr (w.heap.size + 2) v L ∧ Below w.heap.size w wr ∧ w.heap.size + 2 ≤ wr.heap.size) (fun i _ => s.size - (intOf i).toNat)
  case atStart => exact ⟨a0, [], _, rfl, .start a0 HG0.out ha, HP1.out, GrowT.nil _ _, HB1.out, hsz1⟩
  case round =>
    obtain ⟨a, L, v, rfl, hTk, hP, hG, hb, hsz⟩ := hrel
    obtain ⟨x, c, rfl⟩ := hG.slice
    have hle := hTk.le
    have hlen := hTk.len
    have HTk := Lib.hid hTk
    have HP := Lib.hid hP
    have HG := Lib.hid hG
    have HB := Lib.hid hb
    clear hTk hP hG hb
    by_cases hlt : a < s.size
    · have hlt' : (a : Int) < (s.size : Int) := by omega
      have hle' : (a : Int) ≤ (s.size : Int) := by omega
      go_wp2_with fail
      refine (first_any (s.extract a s.size) a _ (by rw [ByteArray.size_extract]; omega) (by rw [ByteArray.size_extract]; omega) (by omega) (by omega) (HT.out.below HB.out)).mono ?_
      rintro e w2 ⟨rfl, hb2⟩
      have HP2 := Lib.hid (HP.out.keep hb2 (by omega))
      have HG2 := Lib.hid (HG.out.below hb2)
      have HB2 := Lib.hid (HB.out.trans (hb2.mono HB.out.size))
      have hsz2 : w.heap.size + 2 ≤ w2.heap.size := by have := hb2.size; omega
      clear hb2 HP HG
      obtain ⟨⟨x0, x1⟩, ⟨y0, y1⟩, ⟨z0, z1⟩⟩ := HP2.out
      cases ho : firstO (s.extract a s.size) with
      | tok k n v' p =>
        simp only [outE]
        unfold tokV
        have hfl := first_len (s := s.extract a s.size) (by rw [ByteArray.size_extract]; omega) ho
        rw [ByteArray.size_extract] at hfl
        have hown := HG2.out.lt
        have hx1 : (((s.extract a s.size).extract 0 n).size : Int) = (n : Int) := by rw [ByteArray.size_extract, ByteArray.size_extract]; omega
        have hx2 : ((s.extract a s.size).extract 0 n).size = n := by omega
        generalize htx : (s.extract a s.size).extract 0 n = tx at *
        have hlt2 : w.heap.size < w2.heap.size := by omega
        go_wp2_with (at_builtin; refine wpList_app_tok _ rfl _ _ rfl (w.heap.size + 2) _ L rfl ?hgw (w2.heap.size + 1) 1 ⟨k, tx, v', p, a⟩ rfl ?hcm ?hbd ?hB ?_; rotate_right; intro v9 w9 hg9 hb9 hgr9; refine Hid.out ?_)
        case hgw => exact (HG2.out.alloc _).alloc _
        case hcm => refine ⟨?_, ?_, ?_, ?_, ?_⟩ <;> simp
        case hbd => omega
        case hB => simp; omega
        obtain ⟨x9, c9, rfl⟩ := hg9.slice
        have HP9 := Lib.hid (PBox.keep (((HP2.out.keep ((Below.refl _ _).alloc (Nat.le_refl _) _) (by omega)).keep ((Below.refl _ _).alloc (Nat.le_refl _) _) (by simp; omega))) hb9 (by omega))
        have HG9 := Lib.hid hg9
        have HB9 := Lib.hid (((HB2.out.alloc HB2.out.size _).alloc (by have := HB2.out.size; simp; omega) _).trans (hb9.mono (by omega)))
        have x5 : w9.cell? ⟨w2.heap.size, 1, none⟩ = some (.string tx) := hgr9.cell (by simp) (fun e => by have := hown w2.heap.size e.symm; omega)
        have hsz9 : w2.heap.size + 2 ≤ w9.heap.size := by have := hgr9.size; simp at this; omega
        obtain ⟨⟨p0, p1⟩, -, -⟩ := HP9.out
        have hne : w.heap.size ≠ w2.heap.size := by omega
        clear hg9 hb9 hgr9 x0 x1 y0 y1 z0 z1
        refine Lib.hid ?_
        have htn : ((a : Int) + (n : Int)).toNat = a + n := by omega
        have hle2 : (a : Int) + (n : Int) ≤ (s.size : Int) := by omega
        go_wp2_with fail
        have hlL : (L ++ [(⟨k, tx, v', p, a⟩ : Tk)]).length = L.length + 1 := by simp
        have HPa := Lib.hid (HP9.out.put (.slice x9 (L.length + 1) c9))
        have HGa := Lib.hid (HG9.out.put (a := ⟨w.heap.size, 0, none⟩) (by simp) (.slice x9 (L.length + 1) c9))
        have HBa := Lib.hid (HB9.out.setCell (p := ⟨w.heap.size, 0, none⟩) (by simp) (.slice x9 (L.length + 1) c9))
        have hsza : w.heap.size + 2 ≤ (w9.setCell ⟨w.heap.size, 0, none⟩ (.slice x9 (L.length + 1) c9)).heap.size := by simp; omega
        rw [hlL] at HGa
        refine (gap_any (s.extract (a + n) s.size) _ (by rw [ByteArray.size_extract]; omega)).mono ?_
        rintro e w10 ⟨m, rfl, hm, hms, hb10⟩
        rw [ByteArray.size_extract] at hms
        have HPb := Lib.hid (HPa.out.keep hb10 (by omega))
        have HGb := Lib.hid (HGa.out.below hb10)
        have HBb := Lib.hid (HBa.out.trans (hb10.mono HBa.out.size))
        have hszb : w.heap.size + 2 ≤ w10.heap.size := by have := hb10.size; omega
        have HS := Lib.hid (Toks.step a L k n v' p m HTk.out hlt ho hm (by omega))
        rw [htx] at HS
        clear hb10 hm HPa HGa HBa HP9 HG9 HB9 p0 p1 x5
        go_wp2_with fail
        go_roundw
        case rel => exact ⟨a + n + m, _, _, by go_num, HS.out, HPb.out, HGb.out, HBb.out, hszb⟩
        case measure => simp [intOf]; omega
      | bad e o =>
        simp only [outE]
        have HF := Lib.hid ho
        go_wp2_with fail
        refine leaves_cons (f := 20) (args := #[.pointer (some ⟨w.heap.size, 0, none⟩), .pointer (some ⟨w.heap.size + 1, 0, none⟩)]) (by simp) (by simp [go_sem]) ?_
        refine (catch_gone w.heap.size (w.heap.size + 1) e (a + o) w2 _ x0 x1 y0 z0 y1 z1 (by omega)).mono ?_
        rintro e1 u' w'' ⟨rfl, rfl, rfl⟩
        have e0 : (((w2.setCell ⟨w.heap.size, 0, none⟩ (.slice none 0 0)).setCell ⟨w.heap.size + 1, 0, none⟩ (.int .i64 e)).setCell ⟨w.heap.size + 1, 1, none⟩ (.int .i64 (a + o))).cell? ⟨w.heap.size, 0, none⟩ = some (.slice none 0 0) := by
          rw [World.cell?_setCell_other (h := fun e => by injection e; omega), World.cell?_setCell_other (h := fun e => by injection e; omega)]
          exact World.cell?_setCell_same _ _ _ x0
        have e1 : (((w2.setCell ⟨w.heap.size, 0, none⟩ (.slice none 0 0)).setCell ⟨w.heap.size + 1, 0, none⟩ (.int .i64 e)).setCell ⟨w.heap.size + 1, 1, none⟩ (.int .i64 (a + o))).cell? ⟨w.heap.size + 1, 0, none⟩ = some (.int .i64 e) := by
          rw [World.cell?_setCell_other (h := fun e => by injection e; omega)]
          exact World.cell?_setCell_same _ _ _ ((World.cell?_setCell_other _ _ _ _ (fun e => by injection e; omega)).trans y0)
        have e2 : (((w2.setCell ⟨w.heap.size, 0, none⟩ (.slice none 0 0)).setCell ⟨w.heap.size + 1, 0, none⟩ (.int .i64 e)).setCell ⟨w.heap.size + 1, 1, none⟩ (.int .i64 (a + o))).cell? ⟨w.heap.size + 1, 1, none⟩ = some (.int .i64 (a + o)) := by
          refine World.cell?_setCell_same _ _ _ ((World.cell?_setCell_other _ _ _ _ (fun e => by injection e; omega)).trans ((World.cell?_setCell_other _ _ _ _ (fun e => by injection e; omega)).trans z0))
        simp [Leaves, settle, results, Tryd.results13, go_sem, e0, e1, e2]
        exact ⟨_, _, _, ⟨rfl, rfl, rfl⟩, .inr ⟨a, L, o, HTk.out, hlt, HF.out, rfl, by omega⟩, (((HB2.out.setCell (by simp) _).setCell (by simp) _).setCell (by simp) _).drew⟩
    · obtain rfl : a = s.size := by omega
      have hltB : decide ((s.size : Int) < (s.size : Int)) = false := decide_eq_false (by omega)
      obtain ⟨⟨x0, x1⟩, ⟨y0, y1⟩, ⟨z0, z1⟩⟩ := HP.out
      go_wp2_with fail
      go_region
      go_wp2_with fail
      refine leaves_cons (f := 20) (args := #[.pointer (some ⟨w.heap.size, 0, none⟩), .pointer (some ⟨w.heap.size + 1, 0, none⟩)]) (by simp) (by simp [go_sem]) ?_
      refine (catch_idle ⟨w.heap.size, 0, none⟩ ⟨w.heap.size + 1, 0, none⟩ _).mono ?_
      rintro e1 u' w'' ⟨rfl, rfl, rfl⟩
      have e0 : (((wr.setCell ⟨w.heap.size, 0, none⟩ (.slice x L.length c)).setCell ⟨w.heap.size + 1, 0, none⟩ (.int .i64 0)).setCell ⟨w.heap.size + 1, 1, none⟩ (.int .i64 0)).cell? ⟨w.heap.size, 0, none⟩ = some (.slice x L.length c) := by
        rw [World.cell?_setCell_other (h := fun e => by injection e; omega), World.cell?_setCell_other (h := fun e => by injection e; omega)]
        exact World.cell?_setCell_same _ _ _ x0
      have e1 : (((wr.setCell ⟨w.heap.size, 0, none⟩ (.slice x L.length c)).setCell ⟨w.heap.size + 1, 0, none⟩ (.int .i64 0)).setCell ⟨w.heap.size + 1, 1, none⟩ (.int .i64 0)).cell? ⟨w.heap.size + 1, 0, none⟩ = some (.int .i64 0) := by
        rw [World.cell?_setCell_other (h := fun e => by injection e; omega)]
        exact World.cell?_setCell_same _ _ _ ((World.cell?_setCell_other _ _ _ _ (fun e => by injection e; omega)).trans y0)
      have e2 : (((wr.setCell ⟨w.heap.size, 0, none⟩ (.slice x L.length c)).setCell ⟨w.heap.size + 1, 0, none⟩ (.int .i64 0)).setCell ⟨w.heap.size + 1, 1, none⟩ (.int .i64 0)).cell? ⟨w.heap.size + 1, 1, none⟩ = some (.int .i64 0) := by
        refine World.cell?_setCell_same _ _ _ ((World.cell?_setCell_other _ _ _ _ (fun e => by injection e; omega)).trans ((World.cell?_setCell_other _ _ _ _ (fun e => by injection e; omega)).trans z0))
      simp [Leaves, settle, results, Tryd.results13, go_sem, e0, e1, e2]
      exact ⟨_, _, _, ⟨rfl, rfl, rfl⟩, .inl ⟨L, HTk.out, ((HG.out.put (by simp) _).put (by simp) _).put (by simp) _, rfl, rfl⟩, (((HB.out.setCell (by simp) _).setCell (by simp) _).setCell (by simp) _).drew⟩
end Go.Proofs.YtgiacemmigjloaaDoor
