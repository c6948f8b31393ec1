/-
  Promises V2, V6: the walks of one thing's copy.
-/
import Derived.Test.YtkalfdjmklakdaaGreatDoorKV
namespace Go.Proofs.YtkalfdjmklakdaaGreatDoor
open Go.RowKit
theorem fr_set {B D : Nat} {P : World → Prop} {W : World} {p : Addr} {v : Value} (h : FrP B D W P) (hD : D ≤ W.heap.size) (hp : p.block < B) : FrP B D (W.setCell p v) P := h.move (Agree.set ⟨fun _ _ _ => rfl, hD⟩ hp)
theorem fr_rowD {B D : Nat} {P : World → Prop} {W : World} {g : Nat} {cs : Array Value} (h : FrP B D W P) (hD : D ≤ W.heap.size) (hg : g < B) : FrP B D (W.setRow g cs) P := h.move (Agree.setRow ⟨fun _ _ _ => rfl, hD⟩ hg)
theorem one_Ex (r : Ex) (a : Option Addr) (c : Nat) : (#[.int .i64 r.k, .int .i64 r.n, .string r.s, .slice a r.m c] : Array Value).all (·.oneCell') = true := by simp [Value.oneCell']
theorem siz_Ex (r : Ex) (a : Option Addr) (c : Nat) : (Tryz.prog.info? 71).map (·.size) = some (#[.int .i64 r.k, .int .i64 r.n, .string r.s, .slice a r.m c] : Array Value).size := by
 rw [show (#[.int .i64 r.k, .int .i64 r.n, .string r.s, .slice a r.m c] : Array Value).size = 4 from rfl]
 kernel_rfl
set_option maxRecDepth 100000 in
set_option maxHeartbeats 2000000 in
theorem fldEx (r : Ex) (a : Option Addr) (c : Nat) (Sub : World → Option Addr → Prop) (w : World)
 (hcall : ∀ w', Below w.heap.size w w' → Calls Tryz.prog 208 #[.slice a r.m c, .func (.func 163) #[] #[]] w' fun e w'' => ∃ (ay : Option Addr) (cy : Nat), e = .returned (.slice ay r.m cy) ∧ FrP w'.heap.size w''.heap.size w'' (fun z => Sub z ay) ∧ Below w'.heap.size w' w'') :
 Calls Tryz.prog 163 #[.agg #[.int .i64 r.k, .int .i64 r.n, .string r.s, .slice a r.m c]] w fun e w' => ∃ (ay : Option Addr) (cy : Nat), e = .returned (.agg #[.int .i64 r.k, .int .i64 r.n, .string r.s, .slice ay r.m cy]) ∧ FrP w.heap.size w'.heap.size w' (fun z => Sub z ay) ∧ Below w.heap.size w w' := by
 have hb0 := (kbelow_box w (.cells #[.int .i64 r.k, .int .i64 r.n, .string r.s, .slice a r.m c] 71)).alloc (by simp) (.cells #[.int .i64 0, .int .i64 0, .string ⟨#[]⟩, .slice none 0 0] 71)
 have hx0 := ((kbelow_box _ (.cells #[.int .i64 0, .int .i64 0, .string ⟨#[]⟩, .slice none 0 0] 71)).block w.heap.size (by simp)).trans (heap_alloc_new w (.cells #[.int .i64 r.k, .int .i64 r.n, .string r.s, .slice a r.m c] 71))
 have hr0 := heap_alloc_new (w.alloc (.cells #[.int .i64 r.k, .int .i64 r.n, .string r.s, .slice a r.m c] 71)) (.cells #[.int .i64 0, .int .i64 0, .string ⟨#[]⟩, .slice none 0 0] 71)
 rw [World.size_alloc] at hr0
 have HB := Lib.hid hb0
 have HX := Lib.hid hx0
 have HR := Lib.hid hr0
 have HCL := Lib.hid (hcall _ hb0)
 clear hb0 hx0 hr0 hcall
 go_enter Tryz.func163, Tryz.ntmps163
 go_wp2_with fail
 refine HCL.out.mono ?_
 rintro e w1 ⟨ay, cy, rfl, hfr, hb⟩
 have hx := (hb.block w.heap.size (by simp; omega)).trans HX.out
 have hr := (hb.block (w.heap.size + 1) (by simp)).trans HR.out
 have hbb := HB.out.trans (hb.mono HB.out.size)
 have hg : ∀ j, w1.cell? ⟨w.heap.size, j, none⟩ = (#[.int .i64 r.k, .int .i64 r.n, .string r.s, .slice a r.m c] : Array Value)[j]? := fun j => cell_of_row w1 w.heap.size j _ _ _ hx
 have k0 := hg 0
 have k1 := hg 1
 have k2 := hg 2
 have k3 := hg 3
 have f3 := froz_row (w := w1) 3 hx
 have HXN : Hid ((w1.setCell ⟨w.heap.size, 3, none⟩ (.slice ay r.m cy)).heap[w.heap.size]? = some (.cells #[.int .i64 r.k, .int .i64 r.n, .string r.s, .slice ay r.m cy] 71 (0, 0))) := Lib.hid (heap_setCell_row 3 (.slice ay r.m cy) hx)
 have HRN : Hid ((w1.setCell ⟨w.heap.size, 3, none⟩ (.slice ay r.m cy)).heap[w.heap.size + 1]? = some (.cells #[.int .i64 0, .int .i64 0, .string ⟨#[]⟩, .slice none 0 0] 71 (0, 0))) := Lib.hid ((heap_setCell_oth 3 (.slice ay r.m cy) (by omega)).trans hr)
 have HBN := Lib.hid (hbb.setCell (p := ⟨w.heap.size, 3, none⟩) (Nat.le_refl _) (.slice ay r.m cy))
 have HFN : Hid (FrP (w.heap.size + 2) w1.heap.size (w1.setCell ⟨w.heap.size, 3, none⟩ (.slice ay r.m cy)) (fun z => Sub z ay)) := Lib.hid (fr_set (hfr.wide (B' := w.heap.size + 2) (by simp) (Nat.le_refl _)) (by simp) (p := ⟨w.heap.size, 3, none⟩) (by show w.heap.size < w.heap.size + 2; omega) (v := .slice ay r.m cy))
 clear hx hr hbb hb hg hfr
 go_wp2_with (first | (refine wpList_load_row rfl 71 (.tmp 1) rfl w.heap.size rfl 71 #[.int .i64 r.k, .int .i64 r.n, .string r.s, .slice ay r.m cy] (0, 0) _ HXN.out Tryz.underlying71 rfl (siz_Ex r ay cy) ?_) | (refine wpList_store_row rfl 71 (.tmp 2) (.tmp 7) rfl (w.heap.size + 1) #[.int .i64 r.k, .int .i64 r.n, .string r.s, .slice ay r.m cy] rfl rfl 71 #[.int .i64 0, .int .i64 0, .string ⟨#[]⟩, .slice none 0 0] HRN.out (siz_Ex r ay cy) rfl (one_Ex r ay cy) ?_))
 refine bodyPost_ret (v := .agg #[.int .i64 r.k, .int .i64 r.n, .string r.s, .slice ay r.m cy]) (results_cell_row (p := 2) (ty := 71) Tryz.results163 _ _ (w.heap.size + 1) 71 #[.int .i64 r.k, .int .i64 r.n, .string r.s, .slice ay r.m cy] (0, 0) _ rfl (setRow_heap _ _ _ _ _ _ HRN.out) Tryz.underlying71 rfl (siz_Ex r ay cy)) rfl ⟨ay, cy, rfl, ?_, ?_⟩
 ·refine (fr_rowD HFN.out (by simp) (by omega)).wide (by omega) (by simp)
 ·exact below_setRow HBN.out (by omega) _
theorem one_Ln (r : Ln) (a : Option Addr) (c : Nat) : (#[.int .i64 r.kind, .string r.name, .int .i64 r.ex.k, .int .i64 r.ex.n, .string r.ex.s, .slice a r.ex.m c] : Array Value).all (·.oneCell') = true := by simp [Value.oneCell']
theorem siz_Ln (r : Ln) (a : Option Addr) (c : Nat) : (Tryz.prog.info? 73).map (·.size) = some (#[.int .i64 r.kind, .string r.name, .int .i64 r.ex.k, .int .i64 r.ex.n, .string r.ex.s, .slice a r.ex.m c] : Array Value).size := by
 rw [show (#[.int .i64 r.kind, .string r.name, .int .i64 r.ex.k, .int .i64 r.ex.n, .string r.ex.s, .slice a r.ex.m c] : Array Value).size = 6 from rfl]
 kernel_rfl
set_option maxRecDepth 100000 in
set_option maxHeartbeats 2000000 in
theorem fldLn (r : Ln) (a : Option Addr) (c : Nat) (Sub : World → Option Addr → Prop) (w : World)
 (hcall : ∀ w', Below w.heap.size w w' → Calls Tryz.prog 163 #[.agg #[.int .i64 r.ex.k, .int .i64 r.ex.n, .string r.ex.s, .slice a r.ex.m c]] w' fun e w'' => ∃ (ay : Option Addr) (cy : Nat), e = .returned (.agg #[.int .i64 r.ex.k, .int .i64 r.ex.n, .string r.ex.s, .slice ay r.ex.m cy]) ∧ FrP w'.heap.size w''.heap.size w'' (fun z => Sub z ay) ∧ Below w'.heap.size w' w'') :
 Calls Tryz.prog 112 #[.agg #[.int .i64 r.kind, .string r.name, .int .i64 r.ex.k, .int .i64 r.ex.n, .string r.ex.s, .slice a r.ex.m c]] w fun e w' => ∃ (ay : Option Addr) (cy : Nat), e = .returned (.agg #[.int .i64 r.kind, .string r.name, .int .i64 r.ex.k, .int .i64 r.ex.n, .string r.ex.s, .slice ay r.ex.m cy]) ∧ FrP w.heap.size w'.heap.size w' (fun z => Sub z ay) ∧ Below w.heap.size w w' := by
 have hb0 := (kbelow_box w (.cells #[.int .i64 r.kind, .string r.name, .int .i64 r.ex.k, .int .i64 r.ex.n, .string r.ex.s, .slice a r.ex.m c] 73)).alloc (by simp) (.cells #[.int .i64 0, .string ⟨#[]⟩, .int .i64 0, .int .i64 0, .string ⟨#[]⟩, .slice none 0 0] 73)
 have hx0 := ((kbelow_box _ (.cells #[.int .i64 0, .string ⟨#[]⟩, .int .i64 0, .int .i64 0, .string ⟨#[]⟩, .slice none 0 0] 73)).block w.heap.size (by simp)).trans (heap_alloc_new w (.cells #[.int .i64 r.kind, .string r.name, .int .i64 r.ex.k, .int .i64 r.ex.n, .string r.ex.s, .slice a r.ex.m c] 73))
 have hr0 := heap_alloc_new (w.alloc (.cells #[.int .i64 r.kind, .string r.name, .int .i64 r.ex.k, .int .i64 r.ex.n, .string r.ex.s, .slice a r.ex.m c] 73)) (.cells #[.int .i64 0, .string ⟨#[]⟩, .int .i64 0, .int .i64 0, .string ⟨#[]⟩, .slice none 0 0] 73)
 rw [World.size_alloc] at hr0
 have HB := Lib.hid hb0
 have HX := Lib.hid hx0
 have HR := Lib.hid hr0
 have HCL := Lib.hid (hcall _ hb0)
 clear hb0 hx0 hr0 hcall
 go_enter Tryz.func112, Tryz.ntmps112
 go_wp2_with fail
 refine HCL.out.mono ?_
 rintro e w1 ⟨ay, cy, rfl, hfr, hb⟩
 have hx := (hb.block w.heap.size (by simp; omega)).trans HX.out
 have hr := (hb.block (w.heap.size + 1) (by simp)).trans HR.out
 have hbb := HB.out.trans (hb.mono HB.out.size)
 have hg : ∀ j, w1.cell? ⟨w.heap.size, j, none⟩ = (#[.int .i64 r.kind, .string r.name, .int .i64 r.ex.k, .int .i64 r.ex.n, .string r.ex.s, .slice a r.ex.m c] : Array Value)[j]? := fun j => cell_of_row w1 w.heap.size j _ _ _ hx
 have k0 := hg 0
 have k1 := hg 1
 have k2 := hg 2
 have k3 := hg 3
 have k4 := hg 4
 have k5 := hg 5
 have f2 := froz_row (w := w1) 2 hx
 have f3 := froz_row (w := w1) 3 hx
 have f4 := froz_row (w := w1) 4 hx
 have f5 := froz_row (w := w1) 5 hx
 have HXN : Hid (((((w1.setCell ⟨w.heap.size, 2, none⟩ (.int .i64 r.ex.k)).setCell ⟨w.heap.size, 3, none⟩ (.int .i64 r.ex.n)).setCell ⟨w.heap.size, 4, none⟩ (.string r.ex.s)).setCell ⟨w.heap.size, 5, none⟩ (.slice ay r.ex.m cy)).heap[w.heap.size]? = some (.cells #[.int .i64 r.kind, .string r.name, .int .i64 r.ex.k, .int .i64 r.ex.n, .string r.ex.s, .slice ay r.ex.m cy] 73 (0, 0))) := Lib.hid (heap_setCell_row 5 (.slice ay r.ex.m cy) (heap_setCell_row 4 (.string r.ex.s) (heap_setCell_row 3 (.int .i64 r.ex.n) (heap_setCell_row 2 (.int .i64 r.ex.k) hx))))
 have HRN : Hid (((((w1.setCell ⟨w.heap.size, 2, none⟩ (.int .i64 r.ex.k)).setCell ⟨w.heap.size, 3, none⟩ (.int .i64 r.ex.n)).setCell ⟨w.heap.size, 4, none⟩ (.string r.ex.s)).setCell ⟨w.heap.size, 5, none⟩ (.slice ay r.ex.m cy)).heap[w.heap.size + 1]? = some (.cells #[.int .i64 0, .string ⟨#[]⟩, .int .i64 0, .int .i64 0, .string ⟨#[]⟩, .slice none 0 0] 73 (0, 0))) := Lib.hid ((heap_setCell_oth 5 (.slice ay r.ex.m cy) (by omega)).trans ((heap_setCell_oth 4 (.string r.ex.s) (by omega)).trans ((heap_setCell_oth 3 (.int .i64 r.ex.n) (by omega)).trans ((heap_setCell_oth 2 (.int .i64 r.ex.k) (by omega)).trans hr))))
 have HBN := Lib.hid ((((hbb.setCell (p := ⟨w.heap.size, 2, none⟩) (Nat.le_refl _) (.int .i64 r.ex.k)).setCell (p := ⟨w.heap.size, 3, none⟩) (Nat.le_refl _) (.int .i64 r.ex.n)).setCell (p := ⟨w.heap.size, 4, none⟩) (Nat.le_refl _) (.string r.ex.s)).setCell (p := ⟨w.heap.size, 5, none⟩) (Nat.le_refl _) (.slice ay r.ex.m cy))
 have HFN : Hid (FrP (w.heap.size + 2) w1.heap.size ((((w1.setCell ⟨w.heap.size, 2, none⟩ (.int .i64 r.ex.k)).setCell ⟨w.heap.size, 3, none⟩ (.int .i64 r.ex.n)).setCell ⟨w.heap.size, 4, none⟩ (.string r.ex.s)).setCell ⟨w.heap.size, 5, none⟩ (.slice ay r.ex.m cy)) (fun z => Sub z ay)) := Lib.hid (fr_set (fr_set (fr_set (fr_set (hfr.wide (B' := w.heap.size + 2) (by simp) (Nat.le_refl _)) (by simp) (p := ⟨w.heap.size, 2, none⟩) (by show w.heap.size < w.heap.size + 2; omega) (v := .int .i64 r.ex.k)) (by simp) (p := ⟨w.heap.size, 3, none⟩) (by show w.heap.size < w.heap.size + 2; omega) (v := .int .i64 r.ex.n)) (by simp) (p := ⟨w.heap.size, 4, none⟩) (by show w.heap.size < w.heap.size + 2; omega) (v := .string r.ex.s)) (by simp) (p := ⟨w.heap.size, 5, none⟩) (by show w.heap.size < w.heap.size + 2; omega) (v := .slice ay r.ex.m cy))
 clear hx hr hbb hb hg hfr
 go_wp2_with (first | (refine wpList_load_row rfl 73 (.tmp 1) rfl w.heap.size rfl 73 #[.int .i64 r.kind, .string r.name, .int .i64 r.ex.k, .int .i64 r.ex.n, .string r.ex.s, .slice ay r.ex.m cy] (0, 0) _ HXN.out Tryz.underlying73 rfl (siz_Ln r ay cy) ?_) | (refine wpList_store_row rfl 73 (.tmp 2) (.tmp 7) rfl (w.heap.size + 1) #[.int .i64 r.kind, .string r.name, .int .i64 r.ex.k, .int .i64 r.ex.n, .string r.ex.s, .slice ay r.ex.m cy] rfl rfl 73 #[.int .i64 0, .string ⟨#[]⟩, .int .i64 0, .int .i64 0, .string ⟨#[]⟩, .slice none 0 0] HRN.out (siz_Ln r ay cy) rfl (one_Ln r ay cy) ?_))
 refine bodyPost_ret (v := .agg #[.int .i64 r.kind, .string r.name, .int .i64 r.ex.k, .int .i64 r.ex.n, .string r.ex.s, .slice ay r.ex.m cy]) (results_cell_row (p := 2) (ty := 73) Tryz.results112 _ _ (w.heap.size + 1) 73 #[.int .i64 r.kind, .string r.name, .int .i64 r.ex.k, .int .i64 r.ex.n, .string r.ex.s, .slice ay r.ex.m cy] (0, 0) _ rfl (setRow_heap _ _ _ _ _ _ HRN.out) Tryz.underlying73 rfl (siz_Ln r ay cy)) rfl ⟨ay, cy, rfl, ?_, ?_⟩
 ·refine (fr_rowD HFN.out (by simp) (by omega)).wide (by omega) (by simp)
 ·exact below_setRow HBN.out (by omega) _
theorem one_Tb (r : Tb) (a : Option Addr) (c : Nat) : (#[.string r.name, .slice a r.bks.length c] : Array Value).all (·.oneCell') = true := by simp [Value.oneCell']
theorem siz_Tb (r : Tb) (a : Option Addr) (c : Nat) : (Tryz.prog.info? 135).map (·.size) = some (#[.string r.name, .slice a r.bks.length c] : Array Value).size := by
 rw [show (#[.string r.name, .slice a r.bks.length c] : Array Value).size = 2 from rfl]
 kernel_rfl
set_option maxRecDepth 100000 in
set_option maxHeartbeats 2000000 in
theorem fldTb (r : Tb) (a : Option Addr) (c : Nat) (Sub : World → Option Addr → Prop) (w : World)
 (hcall : ∀ w', Below w.heap.size w w' → Calls Tryz.prog 164 #[.slice a r.bks.length c] w' fun e w'' => ∃ (ay : Option Addr) (cy : Nat), e = .returned (.slice ay r.bks.length cy) ∧ FrP w'.heap.size w''.heap.size w'' (fun z => Sub z ay) ∧ Below w'.heap.size w' w'') :
 Calls Tryz.prog 114 #[.agg #[.string r.name, .slice a r.bks.length c]] w fun e w' => ∃ (ay : Option Addr) (cy : Nat), e = .returned (.agg #[.string r.name, .slice ay r.bks.length cy]) ∧ FrP w.heap.size w'.heap.size w' (fun z => Sub z ay) ∧ Below w.heap.size w w' := by
 have hb0 := (kbelow_box w (.cells #[.string r.name, .slice a r.bks.length c] 135)).alloc (by simp) (.cells #[.string ⟨#[]⟩, .slice none 0 0] 135)
 have hx0 := ((kbelow_box _ (.cells #[.string ⟨#[]⟩, .slice none 0 0] 135)).block w.heap.size (by simp)).trans (heap_alloc_new w (.cells #[.string r.name, .slice a r.bks.length c] 135))
 have hr0 := heap_alloc_new (w.alloc (.cells #[.string r.name, .slice a r.bks.length c] 135)) (.cells #[.string ⟨#[]⟩, .slice none 0 0] 135)
 rw [World.size_alloc] at hr0
 have HB := Lib.hid hb0
 have HX := Lib.hid hx0
 have HR := Lib.hid hr0
 have HCL := Lib.hid (hcall _ hb0)
 clear hb0 hx0 hr0 hcall
 go_enter Tryz.func114, Tryz.ntmps114
 go_wp2_with fail
 refine HCL.out.mono ?_
 rintro e w1 ⟨ay, cy, rfl, hfr, hb⟩
 have hx := (hb.block w.heap.size (by simp; omega)).trans HX.out
 have hr := (hb.block (w.heap.size + 1) (by simp)).trans HR.out
 have hbb := HB.out.trans (hb.mono HB.out.size)
 have hg : ∀ j, w1.cell? ⟨w.heap.size, j, none⟩ = (#[.string r.name, .slice a r.bks.length c] : Array Value)[j]? := fun j => cell_of_row w1 w.heap.size j _ _ _ hx
 have k0 := hg 0
 have k1 := hg 1
 have f1 := froz_row (w := w1) 1 hx
 have HXN : Hid ((w1.setCell ⟨w.heap.size, 1, none⟩ (.slice ay r.bks.length cy)).heap[w.heap.size]? = some (.cells #[.string r.name, .slice ay r.bks.length cy] 135 (0, 0))) := Lib.hid (heap_setCell_row 1 (.slice ay r.bks.length cy) hx)
 have HRN : Hid ((w1.setCell ⟨w.heap.size, 1, none⟩ (.slice ay r.bks.length cy)).heap[w.heap.size + 1]? = some (.cells #[.string ⟨#[]⟩, .slice none 0 0] 135 (0, 0))) := Lib.hid ((heap_setCell_oth 1 (.slice ay r.bks.length cy) (by omega)).trans hr)
 have HBN := Lib.hid (hbb.setCell (p := ⟨w.heap.size, 1, none⟩) (Nat.le_refl _) (.slice ay r.bks.length cy))
 have HFN : Hid (FrP (w.heap.size + 2) w1.heap.size (w1.setCell ⟨w.heap.size, 1, none⟩ (.slice ay r.bks.length cy)) (fun z => Sub z ay)) := Lib.hid (fr_set (hfr.wide (B' := w.heap.size + 2) (by simp) (Nat.le_refl _)) (by simp) (p := ⟨w.heap.size, 1, none⟩) (by show w.heap.size < w.heap.size + 2; omega) (v := .slice ay r.bks.length cy))
 clear hx hr hbb hb hg hfr
 go_wp2_with (first | (refine wpList_load_row rfl 135 (.tmp 1) rfl w.heap.size rfl 135 #[.string r.name, .slice ay r.bks.length cy] (0, 0) _ HXN.out Tryz.underlying135 rfl (siz_Tb r ay cy) ?_) | (refine wpList_store_row rfl 135 (.tmp 2) (.tmp 7) rfl (w.heap.size + 1) #[.string r.name, .slice ay r.bks.length cy] rfl rfl 135 #[.string ⟨#[]⟩, .slice none 0 0] HRN.out (siz_Tb r ay cy) rfl (one_Tb r ay cy) ?_))
 refine bodyPost_ret (v := .agg #[.string r.name, .slice ay r.bks.length cy]) (results_cell_row (p := 2) (ty := 135) Tryz.results114 _ _ (w.heap.size + 1) 135 #[.string r.name, .slice ay r.bks.length cy] (0, 0) _ rfl (setRow_heap _ _ _ _ _ _ HRN.out) Tryz.underlying135 rfl (siz_Tb r ay cy)) rfl ⟨ay, cy, rfl, ?_, ?_⟩
 ·refine (fr_rowD HFN.out (by simp) (by omega)).wide (by omega) (by simp)
 ·exact below_setRow HBN.out (by omega) _
theorem one_Ps (r : Ps) (a : Option Addr) (c : Nat) : (#[.int .i64 r.num, .string r.name, .string r.acc, .slice a r.ins.length c] : Array Value).all (·.oneCell') = true := by simp [Value.oneCell']
theorem siz_Ps (r : Ps) (a : Option Addr) (c : Nat) : (Tryz.prog.info? 57).map (·.size) = some (#[.int .i64 r.num, .string r.name, .string r.acc, .slice a r.ins.length c] : Array Value).size := by
 rw [show (#[.int .i64 r.num, .string r.name, .string r.acc, .slice a r.ins.length c] : Array Value).size = 4 from rfl]
 kernel_rfl
set_option maxRecDepth 100000 in
set_option maxHeartbeats 2000000 in
theorem fldPs (r : Ps) (a : Option Addr) (c : Nat) (Sub : World → Option Addr → Prop) (w : World)
 (hcall : ∀ w', Below w.heap.size w w' → Calls Tryz.prog 165 #[.slice a r.ins.length c, .func (.func 166) #[] #[]] w' fun e w'' => ∃ (ay : Option Addr) (cy : Nat), e = .returned (.slice ay r.ins.length cy) ∧ FrP w'.heap.size w''.heap.size w'' (fun z => Sub z ay) ∧ Below w'.heap.size w' w'') :
 Calls Tryz.prog 116 #[.agg #[.int .i64 r.num, .string r.name, .string r.acc, .slice a r.ins.length c]] w fun e w' => ∃ (ay : Option Addr) (cy : Nat), e = .returned (.agg #[.int .i64 r.num, .string r.name, .string r.acc, .slice ay r.ins.length cy]) ∧ FrP w.heap.size w'.heap.size w' (fun z => Sub z ay) ∧ Below w.heap.size w w' := by
 have hb0 := (kbelow_box w (.cells #[.int .i64 r.num, .string r.name, .string r.acc, .slice a r.ins.length c] 57)).alloc (by simp) (.cells #[.int .i64 0, .string ⟨#[]⟩, .string ⟨#[]⟩, .slice none 0 0] 57)
 have hx0 := ((kbelow_box _ (.cells #[.int .i64 0, .string ⟨#[]⟩, .string ⟨#[]⟩, .slice none 0 0] 57)).block w.heap.size (by simp)).trans (heap_alloc_new w (.cells #[.int .i64 r.num, .string r.name, .string r.acc, .slice a r.ins.length c] 57))
 have hr0 := heap_alloc_new (w.alloc (.cells #[.int .i64 r.num, .string r.name, .string r.acc, .slice a r.ins.length c] 57)) (.cells #[.int .i64 0, .string ⟨#[]⟩, .string ⟨#[]⟩, .slice none 0 0] 57)
 rw [World.size_alloc] at hr0
 have HB := Lib.hid hb0
 have HX := Lib.hid hx0
 have HR := Lib.hid hr0
 have HCL := Lib.hid (hcall _ hb0)
 clear hb0 hx0 hr0 hcall
 go_enter Tryz.func116, Tryz.ntmps116
 go_wp2_with fail
 refine HCL.out.mono ?_
 rintro e w1 ⟨ay, cy, rfl, hfr, hb⟩
 have hx := (hb.block w.heap.size (by simp; omega)).trans HX.out
 have hr := (hb.block (w.heap.size + 1) (by simp)).trans HR.out
 have hbb := HB.out.trans (hb.mono HB.out.size)
 have hg : ∀ j, w1.cell? ⟨w.heap.size, j, none⟩ = (#[.int .i64 r.num, .string r.name, .string r.acc, .slice a r.ins.length c] : Array Value)[j]? := fun j => cell_of_row w1 w.heap.size j _ _ _ hx
 have k0 := hg 0
 have k1 := hg 1
 have k2 := hg 2
 have k3 := hg 3
 have f3 := froz_row (w := w1) 3 hx
 have HXN : Hid ((w1.setCell ⟨w.heap.size, 3, none⟩ (.slice ay r.ins.length cy)).heap[w.heap.size]? = some (.cells #[.int .i64 r.num, .string r.name, .string r.acc, .slice ay r.ins.length cy] 57 (0, 0))) := Lib.hid (heap_setCell_row 3 (.slice ay r.ins.length cy) hx)
 have HRN : Hid ((w1.setCell ⟨w.heap.size, 3, none⟩ (.slice ay r.ins.length cy)).heap[w.heap.size + 1]? = some (.cells #[.int .i64 0, .string ⟨#[]⟩, .string ⟨#[]⟩, .slice none 0 0] 57 (0, 0))) := Lib.hid ((heap_setCell_oth 3 (.slice ay r.ins.length cy) (by omega)).trans hr)
 have HBN := Lib.hid (hbb.setCell (p := ⟨w.heap.size, 3, none⟩) (Nat.le_refl _) (.slice ay r.ins.length cy))
 have HFN : Hid (FrP (w.heap.size + 2) w1.heap.size (w1.setCell ⟨w.heap.size, 3, none⟩ (.slice ay r.ins.length cy)) (fun z => Sub z ay)) := Lib.hid (fr_set (hfr.wide (B' := w.heap.size + 2) (by simp) (Nat.le_refl _)) (by simp) (p := ⟨w.heap.size, 3, none⟩) (by show w.heap.size < w.heap.size + 2; omega) (v := .slice ay r.ins.length cy))
 clear hx hr hbb hb hg hfr
 go_wp2_with (first | (refine wpList_load_row rfl 57 (.tmp 1) rfl w.heap.size rfl 57 #[.int .i64 r.num, .string r.name, .string r.acc, .slice ay r.ins.length cy] (0, 0) _ HXN.out Tryz.underlying57 rfl (siz_Ps r ay cy) ?_) | (refine wpList_store_row rfl 57 (.tmp 2) (.tmp 7) rfl (w.heap.size + 1) #[.int .i64 r.num, .string r.name, .string r.acc, .slice ay r.ins.length cy] rfl rfl 57 #[.int .i64 0, .string ⟨#[]⟩, .string ⟨#[]⟩, .slice none 0 0] HRN.out (siz_Ps r ay cy) rfl (one_Ps r ay cy) ?_))
 refine bodyPost_ret (v := .agg #[.int .i64 r.num, .string r.name, .string r.acc, .slice ay r.ins.length cy]) (results_cell_row (p := 2) (ty := 57) Tryz.results116 _ _ (w.heap.size + 1) 57 #[.int .i64 r.num, .string r.name, .string r.acc, .slice ay r.ins.length cy] (0, 0) _ rfl (setRow_heap _ _ _ _ _ _ HRN.out) Tryz.underlying57 rfl (siz_Ps r ay cy)) rfl ⟨ay, cy, rfl, ?_, ?_⟩
 ·refine (fr_rowD HFN.out (by simp) (by omega)).wide (by omega) (by simp)
 ·exact below_setRow HBN.out (by omega) _
theorem one_In (r : In) (a : Option Addr) (c : Nat) : (#[.string r.name, .slice a r.rows.length c] : Array Value).all (·.oneCell') = true := by simp [Value.oneCell']
theorem siz_In (r : In) (a : Option Addr) (c : Nat) : (Tryz.prog.info? 60).map (·.size) = some (#[.string r.name, .slice a r.rows.length c] : Array Value).size := by
 rw [show (#[.string r.name, .slice a r.rows.length c] : Array Value).size = 2 from rfl]
 kernel_rfl
set_option maxRecDepth 100000 in
set_option maxHeartbeats 2000000 in
theorem fldIn (r : In) (a : Option Addr) (c : Nat) (Sub : World → Option Addr → Prop) (w : World)
 (hcall : ∀ w', Below w.heap.size w w' → Calls Tryz.prog 209 #[.slice a r.rows.length c] w' fun e w'' => ∃ (ay : Option Addr) (cy : Nat), e = .returned (.slice ay r.rows.length cy) ∧ FrP w'.heap.size w''.heap.size w'' (fun z => Sub z ay) ∧ Below w'.heap.size w' w'') :
 Calls Tryz.prog 166 #[.agg #[.string r.name, .slice a r.rows.length c]] w fun e w' => ∃ (ay : Option Addr) (cy : Nat), e = .returned (.agg #[.string r.name, .slice ay r.rows.length cy]) ∧ FrP w.heap.size w'.heap.size w' (fun z => Sub z ay) ∧ Below w.heap.size w w' := by
 have hb0 := (kbelow_box w (.cells #[.string r.name, .slice a r.rows.length c] 60)).alloc (by simp) (.cells #[.string ⟨#[]⟩, .slice none 0 0] 60)
 have hx0 := ((kbelow_box _ (.cells #[.string ⟨#[]⟩, .slice none 0 0] 60)).block w.heap.size (by simp)).trans (heap_alloc_new w (.cells #[.string r.name, .slice a r.rows.length c] 60))
 have hr0 := heap_alloc_new (w.alloc (.cells #[.string r.name, .slice a r.rows.length c] 60)) (.cells #[.string ⟨#[]⟩, .slice none 0 0] 60)
 rw [World.size_alloc] at hr0
 have HB := Lib.hid hb0
 have HX := Lib.hid hx0
 have HR := Lib.hid hr0
 have HCL := Lib.hid (hcall _ hb0)
 clear hb0 hx0 hr0 hcall
 go_enter Tryz.func166, Tryz.ntmps166
 go_wp2_with fail
 refine HCL.out.mono ?_
 rintro e w1 ⟨ay, cy, rfl, hfr, hb⟩
 have hx := (hb.block w.heap.size (by simp; omega)).trans HX.out
 have hr := (hb.block (w.heap.size + 1) (by simp)).trans HR.out
 have hbb := HB.out.trans (hb.mono HB.out.size)
 have hg : ∀ j, w1.cell? ⟨w.heap.size, j, none⟩ = (#[.string r.name, .slice a r.rows.length c] : Array Value)[j]? := fun j => cell_of_row w1 w.heap.size j _ _ _ hx
 have k0 := hg 0
 have k1 := hg 1
 have f1 := froz_row (w := w1) 1 hx
 have HXN : Hid ((w1.setCell ⟨w.heap.size, 1, none⟩ (.slice ay r.rows.length cy)).heap[w.heap.size]? = some (.cells #[.string r.name, .slice ay r.rows.length cy] 60 (0, 0))) := Lib.hid (heap_setCell_row 1 (.slice ay r.rows.length cy) hx)
 have HRN : Hid ((w1.setCell ⟨w.heap.size, 1, none⟩ (.slice ay r.rows.length cy)).heap[w.heap.size + 1]? = some (.cells #[.string ⟨#[]⟩, .slice none 0 0] 60 (0, 0))) := Lib.hid ((heap_setCell_oth 1 (.slice ay r.rows.length cy) (by omega)).trans hr)
 have HBN := Lib.hid (hbb.setCell (p := ⟨w.heap.size, 1, none⟩) (Nat.le_refl _) (.slice ay r.rows.length cy))
 have HFN : Hid (FrP (w.heap.size + 2) w1.heap.size (w1.setCell ⟨w.heap.size, 1, none⟩ (.slice ay r.rows.length cy)) (fun z => Sub z ay)) := Lib.hid (fr_set (hfr.wide (B' := w.heap.size + 2) (by simp) (Nat.le_refl _)) (by simp) (p := ⟨w.heap.size, 1, none⟩) (by show w.heap.size < w.heap.size + 2; omega) (v := .slice ay r.rows.length cy))
 clear hx hr hbb hb hg hfr
 go_wp2_with (first | (refine wpList_load_row rfl 60 (.tmp 1) rfl w.heap.size rfl 60 #[.string r.name, .slice ay r.rows.length cy] (0, 0) _ HXN.out Tryz.underlying60 rfl (siz_In r ay cy) ?_) | (refine wpList_store_row rfl 60 (.tmp 2) (.tmp 7) rfl (w.heap.size + 1) #[.string r.name, .slice ay r.rows.length cy] rfl rfl 60 #[.string ⟨#[]⟩, .slice none 0 0] HRN.out (siz_In r ay cy) rfl (one_In r ay cy) ?_))
 refine bodyPost_ret (v := .agg #[.string r.name, .slice ay r.rows.length cy]) (results_cell_row (p := 2) (ty := 60) Tryz.results166 _ _ (w.heap.size + 1) 60 #[.string r.name, .slice ay r.rows.length cy] (0, 0) _ rfl (setRow_heap _ _ _ _ _ _ HRN.out) Tryz.underlying60 rfl (siz_In r ay cy)) rfl ⟨ay, cy, rfl, ?_, ?_⟩
 ·refine (fr_rowD HFN.out (by simp) (by omega)).wide (by omega) (by simp)
 ·exact below_setRow HBN.out (by omega) _
theorem one_Sl (r : Sq.Slp.Sl) (a : Option Addr) (c : Nat) : (#[.int .i64 r.num, .int .i64 r.per, .int .i64 r.run, .bool r.gone, .slice a r.tot.length c] : Array Value).all (·.oneCell') = true := by simp [Value.oneCell']
theorem siz_Sl (r : Sq.Slp.Sl) (a : Option Addr) (c : Nat) : (Tryz.prog.info? 84).map (·.size) = some (#[.int .i64 r.num, .int .i64 r.per, .int .i64 r.run, .bool r.gone, .slice a r.tot.length c] : Array Value).size := by
 rw [show (#[.int .i64 r.num, .int .i64 r.per, .int .i64 r.run, .bool r.gone, .slice a r.tot.length c] : Array Value).size = 5 from rfl]
 kernel_rfl
set_option maxRecDepth 100000 in
set_option maxHeartbeats 2000000 in
theorem fldSl (r : Sq.Slp.Sl) (a : Option Addr) (c : Nat) (Sub : World → Option Addr → Prop) (w : World)
 (hcall : ∀ w', Below w.heap.size w w' → Calls Tryz.prog 167 #[.slice a r.tot.length c] w' fun e w'' => ∃ (ay : Option Addr) (cy : Nat), e = .returned (.slice ay r.tot.length cy) ∧ FrP w'.heap.size w''.heap.size w'' (fun z => Sub z ay) ∧ Below w'.heap.size w' w'') :
 Calls Tryz.prog 118 #[.agg #[.int .i64 r.num, .int .i64 r.per, .int .i64 r.run, .bool r.gone, .slice a r.tot.length c]] w fun e w' => ∃ (ay : Option Addr) (cy : Nat), e = .returned (.agg #[.int .i64 r.num, .int .i64 r.per, .int .i64 r.run, .bool r.gone, .slice ay r.tot.length cy]) ∧ FrP w.heap.size w'.heap.size w' (fun z => Sub z ay) ∧ Below w.heap.size w w' := by
 have hb0 := (kbelow_box w (.cells #[.int .i64 r.num, .int .i64 r.per, .int .i64 r.run, .bool r.gone, .slice a r.tot.length c] 84)).alloc (by simp) (.cells #[.int .i64 0, .int .i64 0, .int .i64 0, .bool false, .slice none 0 0] 84)
 have hx0 := ((kbelow_box _ (.cells #[.int .i64 0, .int .i64 0, .int .i64 0, .bool false, .slice none 0 0] 84)).block w.heap.size (by simp)).trans (heap_alloc_new w (.cells #[.int .i64 r.num, .int .i64 r.per, .int .i64 r.run, .bool r.gone, .slice a r.tot.length c] 84))
 have hr0 := heap_alloc_new (w.alloc (.cells #[.int .i64 r.num, .int .i64 r.per, .int .i64 r.run, .bool r.gone, .slice a r.tot.length c] 84)) (.cells #[.int .i64 0, .int .i64 0, .int .i64 0, .bool false, .slice none 0 0] 84)
 rw [World.size_alloc] at hr0
 have HB := Lib.hid hb0
 have HX := Lib.hid hx0
 have HR := Lib.hid hr0
 have HCL := Lib.hid (hcall _ hb0)
 clear hb0 hx0 hr0 hcall
 go_enter Tryz.func118, Tryz.ntmps118
 go_wp2_with fail
 refine HCL.out.mono ?_
 rintro e w1 ⟨ay, cy, rfl, hfr, hb⟩
 have hx := (hb.block w.heap.size (by simp; omega)).trans HX.out
 have hr := (hb.block (w.heap.size + 1) (by simp)).trans HR.out
 have hbb := HB.out.trans (hb.mono HB.out.size)
 have hg : ∀ j, w1.cell? ⟨w.heap.size, j, none⟩ = (#[.int .i64 r.num, .int .i64 r.per, .int .i64 r.run, .bool r.gone, .slice a r.tot.length c] : Array Value)[j]? := fun j => cell_of_row w1 w.heap.size j _ _ _ hx
 have k0 := hg 0
 have k1 := hg 1
 have k2 := hg 2
 have k3 := hg 3
 have k4 := hg 4
 have f4 := froz_row (w := w1) 4 hx
 have HXN : Hid ((w1.setCell ⟨w.heap.size, 4, none⟩ (.slice ay r.tot.length cy)).heap[w.heap.size]? = some (.cells #[.int .i64 r.num, .int .i64 r.per, .int .i64 r.run, .bool r.gone, .slice ay r.tot.length cy] 84 (0, 0))) := Lib.hid (heap_setCell_row 4 (.slice ay r.tot.length cy) hx)
 have HRN : Hid ((w1.setCell ⟨w.heap.size, 4, none⟩ (.slice ay r.tot.length cy)).heap[w.heap.size + 1]? = some (.cells #[.int .i64 0, .int .i64 0, .int .i64 0, .bool false, .slice none 0 0] 84 (0, 0))) := Lib.hid ((heap_setCell_oth 4 (.slice ay r.tot.length cy) (by omega)).trans hr)
 have HBN := Lib.hid (hbb.setCell (p := ⟨w.heap.size, 4, none⟩) (Nat.le_refl _) (.slice ay r.tot.length cy))
 have HFN : Hid (FrP (w.heap.size + 2) w1.heap.size (w1.setCell ⟨w.heap.size, 4, none⟩ (.slice ay r.tot.length cy)) (fun z => Sub z ay)) := Lib.hid (fr_set (hfr.wide (B' := w.heap.size + 2) (by simp) (Nat.le_refl _)) (by simp) (p := ⟨w.heap.size, 4, none⟩) (by show w.heap.size < w.heap.size + 2; omega) (v := .slice ay r.tot.length cy))
 clear hx hr hbb hb hg hfr
 go_wp2_with (first | (refine wpList_load_row rfl 84 (.tmp 1) rfl w.heap.size rfl 84 #[.int .i64 r.num, .int .i64 r.per, .int .i64 r.run, .bool r.gone, .slice ay r.tot.length cy] (0, 0) _ HXN.out Tryz.underlying84 rfl (siz_Sl r ay cy) ?_) | (refine wpList_store_row rfl 84 (.tmp 2) (.tmp 7) rfl (w.heap.size + 1) #[.int .i64 r.num, .int .i64 r.per, .int .i64 r.run, .bool r.gone, .slice ay r.tot.length cy] rfl rfl 84 #[.int .i64 0, .int .i64 0, .int .i64 0, .bool false, .slice none 0 0] HRN.out (siz_Sl r ay cy) rfl (one_Sl r ay cy) ?_))
 refine bodyPost_ret (v := .agg #[.int .i64 r.num, .int .i64 r.per, .int .i64 r.run, .bool r.gone, .slice ay r.tot.length cy]) (results_cell_row (p := 2) (ty := 84) Tryz.results118 _ _ (w.heap.size + 1) 84 #[.int .i64 r.num, .int .i64 r.per, .int .i64 r.run, .bool r.gone, .slice ay r.tot.length cy] (0, 0) _ rfl (setRow_heap _ _ _ _ _ _ HRN.out) Tryz.underlying84 rfl (siz_Sl r ay cy)) rfl ⟨ay, cy, rfl, ?_, ?_⟩
 ·refine (fr_rowD HFN.out (by simp) (by omega)).wide (by omega) (by simp)
 ·exact below_setRow HBN.out (by omega) _
theorem one_En (r : Sq.Ldg.En) (a : Option Addr) (c : Nat) : (#[.int .i64 r.day, .slice a r.ps.length c] : Array Value).all (·.oneCell') = true := by simp [Value.oneCell']
theorem siz_En (r : Sq.Ldg.En) (a : Option Addr) (c : Nat) : (Tryz.prog.info? 91).map (·.size) = some (#[.int .i64 r.day, .slice a r.ps.length c] : Array Value).size := by
 rw [show (#[.int .i64 r.day, .slice a r.ps.length c] : Array Value).size = 2 from rfl]
 kernel_rfl
set_option maxRecDepth 100000 in
set_option maxHeartbeats 2000000 in
theorem fldEn (r : Sq.Ldg.En) (a : Option Addr) (c : Nat) (Sub : World → Option Addr → Prop) (w : World)
 (hcall : ∀ w', Below w.heap.size w w' → Calls Tryz.prog 168 #[.slice a r.ps.length c] w' fun e w'' => ∃ (ay : Option Addr) (cy : Nat), e = .returned (.slice ay r.ps.length cy) ∧ FrP w'.heap.size w''.heap.size w'' (fun z => Sub z ay) ∧ Below w'.heap.size w' w'') :
 Calls Tryz.prog 120 #[.agg #[.int .i64 r.day, .slice a r.ps.length c]] w fun e w' => ∃ (ay : Option Addr) (cy : Nat), e = .returned (.agg #[.int .i64 r.day, .slice ay r.ps.length cy]) ∧ FrP w.heap.size w'.heap.size w' (fun z => Sub z ay) ∧ Below w.heap.size w w' := by
 have hb0 := (kbelow_box w (.cells #[.int .i64 r.day, .slice a r.ps.length c] 91)).alloc (by simp) (.cells #[.int .i64 0, .slice none 0 0] 91)
 have hx0 := ((kbelow_box _ (.cells #[.int .i64 0, .slice none 0 0] 91)).block w.heap.size (by simp)).trans (heap_alloc_new w (.cells #[.int .i64 r.day, .slice a r.ps.length c] 91))
 have hr0 := heap_alloc_new (w.alloc (.cells #[.int .i64 r.day, .slice a r.ps.length c] 91)) (.cells #[.int .i64 0, .slice none 0 0] 91)
 rw [World.size_alloc] at hr0
 have HB := Lib.hid hb0
 have HX := Lib.hid hx0
 have HR := Lib.hid hr0
 have HCL := Lib.hid (hcall _ hb0)
 clear hb0 hx0 hr0 hcall
 go_enter Tryz.func120, Tryz.ntmps120
 go_wp2_with fail
 refine HCL.out.mono ?_
 rintro e w1 ⟨ay, cy, rfl, hfr, hb⟩
 have hx := (hb.block w.heap.size (by simp; omega)).trans HX.out
 have hr := (hb.block (w.heap.size + 1) (by simp)).trans HR.out
 have hbb := HB.out.trans (hb.mono HB.out.size)
 have hg : ∀ j, w1.cell? ⟨w.heap.size, j, none⟩ = (#[.int .i64 r.day, .slice a r.ps.length c] : Array Value)[j]? := fun j => cell_of_row w1 w.heap.size j _ _ _ hx
 have k0 := hg 0
 have k1 := hg 1
 have f1 := froz_row (w := w1) 1 hx
 have HXN : Hid ((w1.setCell ⟨w.heap.size, 1, none⟩ (.slice ay r.ps.length cy)).heap[w.heap.size]? = some (.cells #[.int .i64 r.day, .slice ay r.ps.length cy] 91 (0, 0))) := Lib.hid (heap_setCell_row 1 (.slice ay r.ps.length cy) hx)
 have HRN : Hid ((w1.setCell ⟨w.heap.size, 1, none⟩ (.slice ay r.ps.length cy)).heap[w.heap.size + 1]? = some (.cells #[.int .i64 0, .slice none 0 0] 91 (0, 0))) := Lib.hid ((heap_setCell_oth 1 (.slice ay r.ps.length cy) (by omega)).trans hr)
 have HBN := Lib.hid (hbb.setCell (p := ⟨w.heap.size, 1, none⟩) (Nat.le_refl _) (.slice ay r.ps.length cy))
 have HFN : Hid (FrP (w.heap.size + 2) w1.heap.size (w1.setCell ⟨w.heap.size, 1, none⟩ (.slice ay r.ps.length cy)) (fun z => Sub z ay)) := Lib.hid (fr_set (hfr.wide (B' := w.heap.size + 2) (by simp) (Nat.le_refl _)) (by simp) (p := ⟨w.heap.size, 1, none⟩) (by show w.heap.size < w.heap.size + 2; omega) (v := .slice ay r.ps.length cy))
 clear hx hr hbb hb hg hfr
 go_wp2_with (first | (refine wpList_load_row rfl 91 (.tmp 1) rfl w.heap.size rfl 91 #[.int .i64 r.day, .slice ay r.ps.length cy] (0, 0) _ HXN.out Tryz.underlying91 rfl (siz_En r ay cy) ?_) | (refine wpList_store_row rfl 91 (.tmp 2) (.tmp 7) rfl (w.heap.size + 1) #[.int .i64 r.day, .slice ay r.ps.length cy] rfl rfl 91 #[.int .i64 0, .slice none 0 0] HRN.out (siz_En r ay cy) rfl (one_En r ay cy) ?_))
 refine bodyPost_ret (v := .agg #[.int .i64 r.day, .slice ay r.ps.length cy]) (results_cell_row (p := 2) (ty := 91) Tryz.results120 _ _ (w.heap.size + 1) 91 #[.int .i64 r.day, .slice ay r.ps.length cy] (0, 0) _ rfl (setRow_heap _ _ _ _ _ _ HRN.out) Tryz.underlying91 rfl (siz_En r ay cy)) rfl ⟨ay, cy, rfl, ?_, ?_⟩
 ·refine (fr_rowD HFN.out (by simp) (by omega)).wide (by omega) (by simp)
 ·exact below_setRow HBN.out (by omega) _
end Go.Proofs.YtkalfdjmklakdaaGreatDoor
