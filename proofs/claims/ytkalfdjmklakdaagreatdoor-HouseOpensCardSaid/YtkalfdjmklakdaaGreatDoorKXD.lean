/-
  Promises V2, V6: the walk of companyIs at what is the same.
  Promise V2: tables that came in are no larger than lists can be.
-/
import Derived.Test.YtkalfdjmklakdaaGreatDoorKX
import Derived.Test.YtkalfdjmklakdaaGreatDoorKXC
import Derived.SizedLaws
namespace Go.Proofs.YtkalfdjmklakdaaGreatDoor
open Go.RowKit Go.Sort
theorem wpList_load_row_g {P : Program} {ops : Array Oper} {rest : List Oper} {o : Oper} {a : Act} {w : World} {Q : Exit → Act → World → Prop} (hgd : Region.wanted o (yielded ops a.tmps) = true) (ty : TypeId) (x : Operand) (ho : o.op = .load ty x)
 (g : Nat) (hx : a.eval x = .pointer (some ⟨g, 0, none⟩)) (t : TypeId) (cs : Array Value) (fr : Nat × Nat) (d : TypeDesc) (hg : w.heap[g]? = some (.cells cs t fr))
 (hu : P.underlying ty = some d) (hd : (match d with | .struct _ | .array _ _ => true | _ => false) = true) (hi : (P.info? ty).map (·.size) = some cs.size)
 (h : wpList P ops Q rest (a.put o.dst (.agg cs)) w) : wpList P ops Q (o :: rest) a w :=
 wpList_step fun _ hK => by rw [if_pos hgd]; exact wp_load_row ty x ho g hx t cs fr d hg hu hd hi (hK _ _ h)
set_option maxRecDepth 100000 in
set_option maxHeartbeats 4000000 in
theorem companyIs_yes (cr c2 : Co) (sr s2 : Ly) (x : Int) (w : World) (h0 : x ≠ 0 → cr = co0 ∧ sr = ly0) (h1 : x = 0 → cr = c2 ∧ CameC w sr cr ∧ CameC w s2 c2 ∧ cr.sls.length ≤ 1000 ∧ cr.jr.length ≤ 1000) :
 Calls Tryz.prog 12 #[.agg (coA cr sr), .int .i64 x, .int .i64 x, .agg (coA c2 s2)] w fun e w' => e = .returned (.bool true) ∧ Below w.heap.size w w' := by
 have hb0 : Below w.heap.size w ((w.alloc (.cells (coA cr sr) 33)).alloc (.cells (coA c2 s2) 33)) := (kbelow_box w _).alloc (by simp) _
 have hx1 : CBox ((w.alloc (.cells (coA cr sr) 33)).alloc (.cells (coA c2 s2) 33)) w.heap.size cr sr := (CBox.made w cr sr).below (kbelow_box _ _) (by simp)
 have hx2 : CBox ((w.alloc (.cells (coA cr sr) 33)).alloc (.cells (coA c2 s2) 33)) (w.heap.size + 1) c2 s2 := by
  have := CBox.made (w.alloc (.cells (coA cr sr) 33)) c2 s2
  rw [World.size_alloc] at this
  exact this
 have HB := Lib.hid hb0
 have HX := Lib.hid hx1
 have HX2 := Lib.hid hx2
 clear hb0 hx1 hx2
 have hxx : (x == x) = true := by simp
 by_cases hz : x = 0
 ·obtain ⟨rfl, c1, c2', l1, l2⟩ := h1 hz
  have HS := Lib.hid (sameCo_yes cr sr s2 _ (c1.below HB.out) (c2'.below HB.out) l1 l2)
  have hz' : (x != 0) = false := by simp [hz]
  clear h0 h1 hz c1 c2' l1 l2
  go_enter Tryz.func12, Tryz.ntmps12
  go_wp2_with (first | (refine wpList_load_row_g (by rfl) 33 (.tmp 4) rfl w.heap.size rfl 33 (coA cr sr) (0, 0) _ HX.out Tryz.underlying33 rfl (coInfo cr sr) ?_) | (refine wpList_load_row_g (by rfl) 33 (.tmp 7) rfl (w.heap.size + 1) rfl 33 (coA cr s2) (0, 0) _ HX2.out Tryz.underlying33 rfl (coInfo cr s2) ?_))
  refine HS.out.mono ?_
  rintro e w1 ⟨rfl, hb1⟩
  have HB1 := Lib.hid (HB.out.trans (hb1.mono HB.out.size))
  clear hb1
  go_wp2_with fail
  go_ret
  exact ⟨rfl, HB1.out⟩
 ·obtain ⟨rfl, rfl⟩ := h0 hz
  have hz' : (x != 0) = true := by simp [hz]
  have HXZ : Hid (CBox (((w.alloc (.cells (coA co0 ly0) 33)).alloc (.cells (coA c2 s2) 33)).setRow (w.heap.size + 1) (coA co0 ly0)) (w.heap.size + 1) co0 ly0) := Lib.hid (setRow_heap _ _ _ _ _ _ HX2.out)
  have HXA : Hid (CBox (((w.alloc (.cells (coA co0 ly0) 33)).alloc (.cells (coA c2 s2) 33)).setRow (w.heap.size + 1) (coA co0 ly0)) w.heap.size co0 ly0) := Lib.hid ((setRow_other _ _ _ _ (by omega)).trans HX.out)
  have HBZ := Lib.hid (below_setRow HB.out (by omega : w.heap.size ≤ w.heap.size + 1) (coA co0 ly0))
  have HS := Lib.hid (sameCo_yes co0 ly0 ly0 _ (came0 _) (came0 (((w.alloc (.cells (coA co0 ly0) 33)).alloc (.cells (coA c2 s2) 33)).setRow (w.heap.size + 1) (coA co0 ly0))) (by decide) (by decide))
  clear h0 h1 hz
  go_enter Tryz.func12, Tryz.ntmps12
  go_wp2_with (first | (refine wpList_store_row rfl 33 (.tmp 7) (.tmp 11) rfl (w.heap.size + 1) (coA co0 ly0) rfl rfl 33 (coA c2 s2) HX2.out (coInfo co0 ly0) rfl (coOne co0 ly0) ?_) | (refine wpList_load_row_g (by rfl) 33 (.tmp 4) rfl w.heap.size rfl 33 (coA co0 ly0) (0, 0) _ HXA.out Tryz.underlying33 rfl (coInfo co0 ly0) ?_) | (refine wpList_load_row_g (by rfl) 33 (.tmp 7) rfl (w.heap.size + 1) rfl 33 (coA co0 ly0) (0, 0) _ HXZ.out Tryz.underlying33 rfl (coInfo co0 ly0) ?_))
  refine HS.out.mono ?_
  rintro e w1 ⟨rfl, hb1⟩
  have HB1 := Lib.hid (HBZ.out.trans (hb1.mono HBZ.out.size))
  clear hb1
  go_wp2_with fail
  go_ret
  exact ⟨rfl, HB1.out⟩
def opV (c : Co) (v k : Int) (i : Nat) : Co := { c with num := v, per := k, run := fun j => if j < i then 0 else c.run j }
theorem CBox.opv0 {w : World} {g : Nat} {c : Co} {s : Ly} (v k : Int) (h : CBox w g c s) : CBox ((w.setCell ⟨g, 7, none⟩ (.int .i64 v)).setCell ⟨g, 8, none⟩ (.int .i64 k)) g (opV c v k 0) s := by
 have e : ((coA c s).setIfInBounds 7 (.int .i64 v)).setIfInBounds 8 (.int .i64 k) = coA (opV c v k 0) s := rfl
 unfold CBox
 rw [← e]
 exact heap_setCell_row 8 _ (heap_setCell_row 7 _ h)
theorem opV_set (c : Co) (v k : Int) (s : Ly) (i : Nat) (hi : i < 8) : (coA (opV c v k i) s).setIfInBounds (9 + i) (.int .i64 0) = coA (opV c v k (i + 1)) s := by
 rcases (show i = 0 ∨ i = 1 ∨ i = 2 ∨ i = 3 ∨ i = 4 ∨ i = 5 ∨ i = 6 ∨ i = 7 by omega) with rfl | rfl | rfl | rfl | rfl | rfl | rfl | rfl <;> rfl
theorem CBox.opvS {w : World} {g : Nat} {c : Co} {s : Ly} {v k : Int} {i : Nat} (h : CBox w g (opV c v k i) s) (hi : i < 8) (j : Nat) (hj : j = 9 + i) : CBox (w.setCell ⟨g, j, none⟩ (.int .i64 0)) g (opV c v k (i + 1)) s := by
 subst hj
 unfold CBox
 rw [← opV_set c v k s i hi]
 exact heap_setCell_row (9 + i) _ h
theorem want_sets {W : World} {g : Nat} {c : Co} {s : Ly} (v k : Int) (h : CBox W g c s) : CBox ((((((((((W.setCell ⟨g, 7, none⟩ (.int .i64 v)).setCell ⟨g, 8, none⟩ (.int .i64 k)).setCell ⟨g, 9, none⟩ (.int .i64 0)).setCell ⟨g, 10, none⟩ (.int .i64 0)).setCell ⟨g, 11, none⟩ (.int .i64 0)).setCell ⟨g, 12, none⟩ (.int .i64 0)).setCell ⟨g, 13, none⟩ (.int .i64 0)).setCell ⟨g, 14, none⟩ (.int .i64 0)).setCell ⟨g, 15, none⟩ (.int .i64 0)).setCell ⟨g, 16, none⟩ (.int .i64 0)) g { c with num := v, per := k, run := fun _ => 0 } s ∧ Below g W ((((((((((W.setCell ⟨g, 7, none⟩ (.int .i64 v)).setCell ⟨g, 8, none⟩ (.int .i64 k)).setCell ⟨g, 9, none⟩ (.int .i64 0)).setCell ⟨g, 10, none⟩ (.int .i64 0)).setCell ⟨g, 11, none⟩ (.int .i64 0)).setCell ⟨g, 12, none⟩ (.int .i64 0)).setCell ⟨g, 13, none⟩ (.int .i64 0)).setCell ⟨g, 14, none⟩ (.int .i64 0)).setCell ⟨g, 15, none⟩ (.int .i64 0)).setCell ⟨g, 16, none⟩ (.int .i64 0)) := by
 constructor
 ·have h1 := ((((((((h.opv0 v k).opvS (by decide) 9 rfl).opvS (by decide) 10 rfl).opvS (by decide) 11 rfl).opvS (by decide) 12 rfl).opvS (by decide) 13 rfl).opvS (by decide) 14 rfl).opvS (by decide) 15 rfl).opvS (by decide) 16 rfl
  exact h1.same rfl rfl rfl rfl rfl rfl (fun j hj => if_pos hj)
 ·iterate 10 (refine Below.setCell ?_ (by exact Nat.le_refl _) _)
  exact Below.refl _ _
end Go.Proofs.YtkalfdjmklakdaaGreatDoor
namespace Go.Proofs.YtkalfdjmklakdaaGreatDoor
open Go.RowKit
theorem mem_weightsAll {H : Type} {P : Program} {e : TypeId} {n : Nat} {d : DataW H} : ∀ {l : List (DataW H)}, d ∈ l → n ∈ d.weights P e → n ∈ DataW.weightsAll P e l
 | [], h, _ => by simp at h
 | x :: l, h, hn => by
   rw [DataW.weightsAll, List.mem_append]
   rcases List.mem_cons.1 h with rfl | h
   ·exact .inl hn
   ·exact .inr (mem_weightsAll h hn)
theorem bytes_tb : Tryz.prog.bytesOf 135 = 40 := by kernel_rfl
theorem bytes_bk : Tryz.prog.bytesOf 189 = 16 := by kernel_rfl
theorem tcells_tb : Tryz.prog.cellsOf 135 = 2 := by kernel_rfl
theorem tcells_bs : Tryz.prog.cellsOf 133 = 1 := by kernel_rfl
set_option maxRecDepth 100000 in
set_option maxHeartbeats 1000000 in
theorem tbs_sz {H : Type} {enc : TypeId × Value → H} {W : World} {fuel : Nat} {a : Option Addr} {len cap : Nat} {x : DataW H × List MemPlace} {l : List Tb}
 (h : DataW.trod enc Tryz.prog W 0 (fun _ => true) true fuel 25 [.slice a len cap] = some x) (hw : ∀ n ∈ x.1.weights Tryz.prog 25, n ≤ reachBytes) (hc : CameT W a l) (hl : l.length = len) : TbSz l := by
 rcases Deep.open_slice Tryz.underlying25 h with ⟨hcs, _⟩ | ⟨a', len', cap', m, n, D, Pl, hcs, _, hle, _, hmm, hx, hall⟩
 ·simp at hcs
  obtain ⟨_, rfl, _⟩ := hcs
  exact ⟨by omega, fun j hj => by omega⟩
 ·simp at hcs
  obtain ⟨rfl, rfl, rfl⟩ := hcs
  have hmc : m = cap := by rw [hmm]; simp
  subst hmc
  subst hx
  have h1 := hw ((len + (m - len)) * 40) (by simp [DataW.weights, Tryz.underlying25, bytes_tb])
  unfold reachBytes at h1
  refine ⟨by rw [hl]; omega, fun j hj => ?_⟩
  rw [hl] at hj
  obtain ⟨cs', hcl, htr⟩ := hall j (by omega)
  rw [tcells_tb] at hcl
  obtain ⟨_, hlen, hcell⟩ := World.cells?_some hcl
  rcases hc with h0 | ⟨b, off, e, hb, hj2⟩
  ·omega
  ·cases e
   obtain ⟨aj, cj, q0, q1, _⟩ := hj2 j (by omega)
   obtain ⟨xs, k, _, hxy, _, hxl, hf⟩ := DataW.trod_struct Tryz.underlying135 htr
   match xs, hxl, cs', hlen with
   | [y0, y1], _, [v0, v1], _ =>
     have g1 := hf 1 _ rfl
     simp [tcells_bs] at g1
     have e1 := hcell 1 (by omega)
     rw [Deep.add_add] at e1
     simp only [Addr.add_lit] at e1
     rw [show off + (j * 2 + 1) = off + j * 2 + 1 by omega, q1] at e1
     have e2 : v1 = .slice aj (tnth l j).bks.length cj := by simpa using e1.symm
     subst e2
     have hD : D j = .agg [y0.1, y1.1] := congrArg Prod.fst hxy
     rcases Deep.open_slice Tryz.underlying133 g1 with ⟨h0, _⟩ | ⟨a2, len2, cap2, m2, n2, D2, Pl2, hcs2, _, hle2, _, hmm2, hx2, _⟩
     ·simp at h0
      simp [h0.2.1]
     ·simp at hcs2
      obtain ⟨_, rfl, rfl⟩ := hcs2
      have hy : y1.1 = .slice ((List.range (tnth l j).bks.length).map D2) ((List.range (m2 - (tnth l j).bks.length)).map fun i => D2 ((tnth l j).bks.length + i)) := congrArg Prod.fst hx2
      have hin : ((tnth l j).bks.length + (m2 - (tnth l j).bks.length)) * 16 ∈ y1.1.weights Tryz.prog 133 := by
       rw [hy]
       simp [DataW.weights, Tryz.underlying133, bytes_bk]
      have hin2 : ((tnth l j).bks.length + (m2 - (tnth l j).bks.length)) * 16 ∈ (D j).weights Tryz.prog 135 := by
       rw [hD]
       simp only [DataW.weights, Tryz.underlying135]
       exact DataW.weights_mem_each (j := 1) rfl rfl _ hin
      have h2 := hw _ (by
       simp only [DataW.weights, Tryz.underlying25, List.mem_cons, List.mem_append]
       exact .inr (.inl (mem_weightsAll (List.mem_map.2 ⟨j, List.mem_range.2 hj, rfl⟩) hin2)))
      unfold reachBytes at h2
      omega
theorem comp_sz {H : Type} {enc : TypeId × Value → H} {W : World} {fuel : Nat} {x : DataW H × List MemPlace} {c : Co} {s : Ly}
 (h : DataW.trod enc Tryz.prog W 0 (fun _ => true) true fuel 33 (coA c s).toList = some x) (hw : ∀ n ∈ x.1.weights Tryz.prog 33, n ≤ reachBytes) (hc : CameC W s c) : TbSz c.tbs := by
 obtain ⟨xs, k, _, hxy, _, hxl, hf⟩ := DataW.trod_struct Tryz.underlying33 h
 match xs, hxl with
 | [y0, y1, y2, y3, y4, y5, y6, y7, y8, y9], _ =>
   have g3 := hf 3 _ rfl
   simp [pcells_ts, coA] at g3
   have hx : x.1 = .agg [y0.1, y1.1, y2.1, y3.1, y4.1, y5.1, y6.1, y7.1, y8.1, y9.1] := congrArg Prod.fst hxy
   refine tbs_sz g3 (fun n hn => hw n ?_) hc.t hc.nt
   rw [hx]
   simp only [DataW.weights, Tryz.underlying33]
   exact DataW.weights_mem_each (j := 3) rfl rfl _ hn
end Go.Proofs.YtkalfdjmklakdaaGreatDoor
