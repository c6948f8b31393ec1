/-
  Promises V2, V6: what lies in fresh memory alone; the state of a loop that copies a list into a row made ahead of it.
  Promises V2, V6: the walk of copied, over what the copies of its lists are.
  Promises V2, V6: the walks of the copies of lists.
-/
import Derived.Test.YtkalfdjmklakdaaGreatDoorKT
import Derived.ArgAppend
import Derived.Laws.MakeOwn
import Derived.Laws.IdiomCopy
import Derived.Deep.Upon
import Derived.Deep.MidRow
import Derived.Lib.LazyBuf
import Derived.Laws.Tables
import Derived.Laws.CopyOwn
import Derived.OwnWalk
import Derived.Lib.SliceRun
namespace Go.Proofs.YtkalfdjmklakdaaGreatDoor
open Go.RowKit
def Agree (B D : Nat) (w w' : World) : Prop := (∀ k, B ≤ k → k < D → w'.heap[k]? = w.heap[k]?) ∧ D ≤ w'.heap.size
theorem Agree.trans {B D : Nat} {a b c : World} (h : Agree B D a b) (k : Agree B D b c) : Agree B D a c := ⟨fun i h1 h2 => (k.1 i h1 h2).trans (h.1 i h1 h2), k.2⟩
theorem Agree.part {B D B' D' : Nat} {a b : World} (h : Agree B D a b) (h1 : B ≤ B') (h2 : D' ≤ D) : Agree B' D' a b := ⟨fun i g1 g2 => h.1 i (Nat.le_trans h1 g1) (Nat.lt_of_lt_of_le g2 h2), Nat.le_trans h2 h.2⟩
theorem Agree.below {B D E : Nat} {a b : World} (hb : Below E a b) (h1 : D ≤ E) (h2 : D ≤ a.heap.size) : Agree B D a b := ⟨fun i _ g2 => hb.block i (by omega), Nat.le_trans h2 hb.size⟩
def FrP (B D : Nat) (w : World) (P : World → Prop) : Prop := ∀ w', Agree B D w w' → P w'
theorem FrP.here {B D : Nat} {w : World} {P : World → Prop} (h : FrP B D w P) (hD : D ≤ w.heap.size) : P w := h w ⟨fun _ _ _ => rfl, hD⟩
theorem FrP.move {B D : Nat} {w w' : World} {P : World → Prop} (h : FrP B D w P) (ha : Agree B D w w') : FrP B D w' P := fun z hz => h z (ha.trans hz)
theorem FrP.wide {B D B' D' : Nat} {w : World} {P : World → Prop} (h : FrP B D w P) (h1 : B' ≤ B) (h2 : D ≤ D') : FrP B' D' w P := fun z hz => h z (hz.part h1 h2)
theorem FrP.imp {B D : Nat} {w : World} {P Q : World → Prop} (h : FrP B D w P) (hi : ∀ z, P z → Q z) : FrP B D w Q := fun z hz => hi z (h z hz)
theorem FrP.triv {B D : Nat} {w : World} {P : World → Prop} (h : ∀ z, P z) : FrP B D w P := fun z _ => h z
def CellsV (w : World) (b o : Nat) (vs : List Value) : Prop := ∀ i v, vs[i]? = some v → w.cell? ⟨b, o + i, none⟩ = some v
theorem cell_block {w w' : World} {b o : Nat} (h : w'.heap[b]? = w.heap[b]?) : w'.cell? ⟨b, o, none⟩ = w.cell? ⟨b, o, none⟩ := by simp [World.cell?, h]
theorem CellsV.block {w w' : World} {b o : Nat} {vs : List Value} (h : CellsV w b o vs) (hb : w'.heap[b]? = w.heap[b]?) : CellsV w' b o vs := fun i v hv => (cell_block hb).trans (h i v hv)
theorem size_setCells (b : Nat) : ∀ (vs : List Value) (o : Nat) (w : World), (w.setCells b o vs).heap.size = w.heap.size
 | [], _, _ => rfl
 | v :: r, o, w => by rw [World.setCells, size_setCells b r (o + 1), World.size_setCell]
structure Cps (K : Nat) (V : Nat → Option Addr → Nat → List Value) (Sub : World → Nat → Option Addr → Prop) (n k : Nat) (w0 wr : World) : Prop where
 ex : ∃ A : Nat → Option Addr × Nat, (∀ j, j < k → CellsV wr w0.heap.size (j * K) (V j (A j).1 (A j).2)) ∧ FrP (w0.heap.size + 1) wr.heap.size wr (fun z => ∀ j, j < k → Sub z j (A j).1)
 free : ∀ i, i < n * K → (wr.cell? ⟨w0.heap.size, i, none⟩).isSome = true ∧ wr.frozen? ⟨w0.heap.size, i, none⟩ = false
 lt : w0.heap.size < wr.heap.size
 bel : Below w0.heap.size w0 wr
theorem Cps.start {K : Nat} {V : Nat → Option Addr → Nat → List Value} {Sub : World → Nat → Option Addr → Prop} {n : Nat} (w0 : World) (Z : Array Value) (T : TypeId) (hZ : Z.size = n * K) : Cps K V Sub n 0 w0 (w0.alloc (.cells Z T)) where
 ex := ⟨fun _ => (none, 0), fun j hj => by omega, .triv fun _ j hj => by omega⟩
 free i hi := by
  refine ⟨?_, World.frozen?_alloc_at _ _ _ _ rfl⟩
  rw [cell_of_row _ _ _ _ _ _ (heap_alloc_new w0 (.cells Z T))]
  rw [Array.getElem?_eq_getElem (by omega)]
  rfl
 lt := by simp
 bel := kbelow_box _ _
theorem Cps.step {K : Nat} {V : Nat → Option Addr → Nat → List Value} {Sub : World → Nat → Option Addr → Prop} {n k : Nat} {w0 wr W : World} (h : Cps K V Sub n k w0 wr) (hV : ∀ j a c, (V j a c).length = K) (hk : k < n) (hb : Below wr.heap.size wr W) (ax : Option Addr) (cx : Nat) (hs : FrP wr.heap.size W.heap.size W (fun z => Sub z k ax)) :
 Cps K V Sub n (k + 1) w0 (W.setCells w0.heap.size (k * K) (V k ax cx)) := by
 obtain ⟨⟨A, hA, hS⟩, hfree, hlt, hbel⟩ := h
 have hkk : (k + 1) * K ≤ n * K := Nat.mul_le_mul_right K hk
 have hk1 : (k + 1) * K = k * K + K := by rw [Nat.add_mul, Nat.one_mul]
 have hoth : ∀ q, q < W.heap.size → q ≠ w0.heap.size → (W.setCells w0.heap.size (k * K) (V k ax cx)).heap[q]? = W.heap[q]? := fun q hq hne => World.heap_setCells_other W _ _ _ hq hne
 have hfr : ∀ i, i < n * K → (W.cell? ⟨w0.heap.size, i, none⟩).isSome = true ∧ W.frozen? ⟨w0.heap.size, i, none⟩ = false := fun i hi => by
  obtain ⟨h1, h2⟩ := hfree i hi
  rw [hb.cell (p := ⟨w0.heap.size, i, none⟩) hlt, World.frozen?_of_block (w := wr) (w' := W) (a := ⟨w0.heap.size, i, none⟩) (hb.block _ hlt)]
  exact ⟨h1, h2⟩
 refine ⟨⟨fun j => if j = k then (ax, cx) else A j, fun j hj => ?_, ?_⟩, fun i hi => ⟨World.isSome_setCells _ _ _ _ _ (hfr i hi).1, (World.frozen?_setCells _ _ _ _ _).trans (hfr i hi).2⟩, ?_, ?_⟩
 ·by_cases e : j = k
  ·subst e
   dsimp only
   rw [if_pos rfl]
   show CellsV (W.setCells w0.heap.size (j * K) (V j ax cx)) w0.heap.size (j * K) (V j ax cx)
   intro i v hv
   have hi : i < (V j ax cx).length := by
    by_cases hi : i < (V j ax cx).length
    ·exact hi
    ·rw [List.getElem?_eq_none (by omega)] at hv; cases hv
   rw [World.cell?_setCells_in _ _ _ _ (fun i hi => (hfr _ (by rw [hV] at hi; omega)).1) i hi]
   rw [List.getElem?_eq_getElem hi] at hv
   exact hv
  ·dsimp only
   rw [if_neg e]
   intro i v hv
   have hi : i < K := by
    by_cases hi : i < K
    ·exact hi
    ·rw [List.getElem?_eq_none (by rw [hV]; omega)] at hv; cases hv
   have hjk : (j + 1) * K ≤ k * K := Nat.mul_le_mul_right K (by omega)
   rw [Nat.add_mul, Nat.one_mul] at hjk
   rw [World.cell?_setCells_out _ _ _ _ _ (fun _ _ => .inl (by simp only; omega)), hb.cell (p := ⟨w0.heap.size, j * K + i, none⟩) hlt]
   exact hA j (by omega) i v hv
 ·intro z hz j hj
  rw [size_setCells] at hz
  by_cases e : j = k
  ·subst e
   simp only [if_pos]
   refine hs z ⟨fun q g1 g2 => (hz.1 q (by omega) g2).trans (hoth q g2 (by omega)), hz.2⟩
  ·simp only [if_neg e]
   refine hS z ⟨fun q g1 g2 => (hz.1 q g1 (Nat.lt_of_lt_of_le g2 hb.size)).trans ((hoth q (Nat.lt_of_lt_of_le g2 hb.size) (by omega)).trans (hb.block q g2)), Nat.le_trans hb.size hz.2⟩ j (by omega)
 ·rw [size_setCells]; exact Nat.lt_of_lt_of_le hlt hb.size
 ·exact Go.below_setCells (Nat.le_refl _) _ _ _ (hbel.trans (hb.mono (by omega)))
theorem Cps.done {K : Nat} {V : Nat → Option Addr → Nat → List Value} {Sub : World → Nat → Option Addr → Prop} {n : Nat} {w0 wr : World} (h : Cps K V Sub n n w0 wr) :
 FrP w0.heap.size wr.heap.size wr (fun z => w0.heap.size < z.heap.size ∧ ∀ j, j < n → ∃ (ax : Option Addr) (cx : Nat), CellsV z w0.heap.size (j * K) (V j ax cx) ∧ Sub z j ax) := by
 obtain ⟨⟨A, hA, hS⟩, _, hlt, _⟩ := h
 intro z hz
 exact ⟨Nat.lt_of_lt_of_le hlt hz.2, fun j hj => ⟨(A j).1, (A j).2, (hA j hj).block (hz.1 _ (Nat.le_refl _) hlt), hS z (hz.part (Nat.le_succ _) (Nat.le_refl _)) j hj⟩⟩
end Go.Proofs.YtkalfdjmklakdaaGreatDoor
namespace Go.Proofs.YtkalfdjmklakdaaGreatDoor
open Go.RowKit
theorem heap_setCell_row {w : World} {g : Nat} (j : Nat) {cs : Array Value} {t : TypeId} {fr : Nat × Nat} (v : Value) (h : w.heap[g]? = some (.cells cs t fr)) : (w.setCell ⟨g, j, none⟩ v).heap[g]? = some (.cells (cs.setIfInBounds j v) t fr) := by
 simp [World.setCell, Array.getElem?_modify, h]
theorem heap_setCell_oth {w : World} {g q : Nat} (j : Nat) (v : Value) (h : q ≠ g) : (w.setCell ⟨g, j, none⟩ v).heap[q]? = w.heap[q]? := by
 have h' : ¬ g = q := fun e => h e.symm
 simp [World.setCell, Array.getElem?_modify, h']
theorem froz_row {w : World} {g : Nat} (j : Nat) {cs : Array Value} {t : TypeId} (h : w.heap[g]? = some (.cells cs t (0, 0))) : w.frozen? ⟨g, j, none⟩ = false := by
 simp [World.frozen?, h]
theorem Agree.set {B D : Nat} {a w : World} {p : Addr} {v : Value} (h : Agree B D a w) (hp : p.block < B) : Agree B D a (w.setCell p v) := by
 obtain ⟨g, j, sp⟩ := p
 refine ⟨fun k h1 h2 => ?_, by rw [World.size_setCell]; exact h.2⟩
 have h' : ¬ g = k := by simp only at hp; omega
 rw [← h.1 k h1 h2]
 simp [World.setCell, Array.getElem?_modify, h']
theorem Agree.setRow {B D : Nat} {a w : World} {g : Nat} {cs : Array Value} (h : Agree B D a w) (hp : g < B) : Agree B D a (w.setRow g cs) :=
 ⟨fun k h1 h2 => (setRow_other w g k cs (by omega)).trans (h.1 k h1 h2), by rw [size_setRow]; exact h.2⟩
theorem fr_step {B : Nat} {P Q : World → Prop} {W W1 : World} {p : Addr} {v : Value} (hP : FrP B W.heap.size W P) (hb : Below W.heap.size W W1) (hQ : FrP W.heap.size W1.heap.size W1 Q) (hB : B ≤ W.heap.size) (hp : p.block < B) :
 FrP B (W1.setCell p v).heap.size (W1.setCell p v) (fun z => P z ∧ Q z) := by
 intro z hz
 have ha : Agree B W1.heap.size W1 (W1.setCell p v) := Agree.set ⟨fun _ _ _ => rfl, Nat.le_refl _⟩ hp
 rw [World.size_setCell] at hz
 have hz1 := ha.trans hz
 exact ⟨hP z ((Agree.below hb (Nat.le_refl _) (Nat.le_refl _)).trans (hz1.part (Nat.le_refl _) hb.size)), hQ z (hz1.part hB (Nat.le_refl _))⟩
theorem fr_row {B : Nat} {P : World → Prop} {W : World} {g : Nat} {cs : Array Value} (hP : FrP B W.heap.size W P) (hg : g < B) : FrP B (W.setRow g cs).heap.size (W.setRow g cs) P := by
 intro z hz
 rw [size_setRow] at hz
 exact hP z ((Agree.setRow ⟨fun _ _ _ => rfl, Nat.le_refl _⟩ hg).trans hz)
def co0 : Co := ⟨0, 0, 0, 0, [], [], [], 0, 0, fun _ => 0, [], []⟩
def ly0 : Ly := ⟨none, 0, 0, none, 0, 0, none, 0, 0, none, 0, 0, none, 0, 0⟩
theorem coSize (c : Co) (s : Ly) : (coA c s).size = 19 := rfl
theorem coOne (c : Co) (s : Ly) : (coA c s).all (·.oneCell') = true := by simp [coA, Value.oneCell']
def Copies (F G : FuncId) (a : Option Addr) (n cap : Nat) (P : World → Option Addr → Prop) (w : World) : Prop :=
 Calls Tryz.prog F #[.slice a n cap, .func (.func G) #[] #[]] w fun e w' => ∃ b, e = .returned (.slice (some ⟨b, 0, none⟩) n n) ∧ FrP w.heap.size w'.heap.size w' (fun z => P z (some ⟨b, 0, none⟩)) ∧ Below w.heap.size w w'
structure CopOk (c : Co) (s : Ly) (w : World) : Prop where
 l : ∀ w', Below w.heap.size w w' → Copies 111 112 s.al s.nl s.cl (fun z a => CameL z a c.lns) w'
 t : ∀ w', Below w.heap.size w w' → Copies 113 114 s.at' s.nt s.ct (fun z a => CameT z a c.tbs) w'
 p : ∀ w', Below w.heap.size w w' → Copies 115 116 s.ap s.np s.cp (fun z a => CamePs z a c.prs) w'
 z : ∀ w', Below w.heap.size w w' → Copies 117 118 s.az s.nz s.cz (fun z a => Sq.Slp.CameS z a c.sls) w'
 j : ∀ w', Below w.heap.size w w' → Copies 119 120 s.aj s.nj s.cj (fun z a => Sq.Ldg.CameE z a c.jr) w'
set_option maxRecDepth 100000 in
set_option maxHeartbeats 4000000 in
theorem copied_of (c : Co) (s : Ly) (w : World) (hc : CameC w s c) (ho : CopOk c s w) :
 Calls Tryz.prog 55 #[.agg (coA c s)] w fun e w' => ∃ s' : Ly, e = .returned (.agg (coA c s')) ∧ FrP w.heap.size w'.heap.size w' (fun z => CameC z s' c) ∧ Below w.heap.size w w' := by
 have HO := Lib.hid ho
 have HC := Lib.hid hc
 have hx0 := (CBox.made w c s).below (kbelow_box _ (.cells #[.int .i64 0, .int .i64 0, .int .i64 0, .int .i64 0, .slice none 0 0, .slice none 0 0, .slice none 0 0, .int .i64 0, .int .i64 0, .int .i64 0, .int .i64 0, .int .i64 0, .int .i64 0, .int .i64 0, .int .i64 0, .int .i64 0, .int .i64 0, .slice none 0 0, .slice none 0 0] 33)) (by simp)
 have HX0 := Lib.hid hx0
 have HR0 : Hid (CBox ((w.alloc (.cells (coA c s) 33)).alloc (.cells #[.int .i64 0, .int .i64 0, .int .i64 0, .int .i64 0, .slice none 0 0, .slice none 0 0, .slice none 0 0, .int .i64 0, .int .i64 0, .int .i64 0, .int .i64 0, .int .i64 0, .int .i64 0, .int .i64 0, .int .i64 0, .int .i64 0, .int .i64 0, .slice none 0 0, .slice none 0 0] 33)) (w.heap.size + 1) co0 ly0) := Lib.hid (by
  have := CBox.made (w.alloc (.cells (coA c s) 33)) co0 ly0
  rw [World.size_alloc] at this
  exact this)
 have HB0 := Lib.hid ((kbelow_box w (.cells (coA c s) 33)).alloc (by simp) (.cells #[.int .i64 0, .int .i64 0, .int .i64 0, .int .i64 0, .slice none 0 0, .slice none 0 0, .slice none 0 0, .int .i64 0, .int .i64 0, .int .i64 0, .int .i64 0, .int .i64 0, .int .i64 0, .int .i64 0, .int .i64 0, .int .i64 0, .int .i64 0, .slice none 0 0, .slice none 0 0] 33))
 obtain ⟨k0, k1, k2, k3, k4, k5, k6, k7, k8, k9, k10, k11, k12, k13, k14, k15, k16, k17, k18⟩ := hx0.cells
 clear hx0 ho hc
 go_enter Tryz.func55, Tryz.ntmps55
 go_wp2_with fail
 clear k0 k1 k2 k3 k4 k5 k6 k7 k8 k9 k10 k11 k12 k13 k14 k15 k16 k17 k18
 have HF0 : Hid (FrP (w.heap.size + 2) ((w.alloc (.cells (coA c s) 33)).alloc (.cells #[.int .i64 0, .int .i64 0, .int .i64 0, .int .i64 0, .slice none 0 0, .slice none 0 0, .slice none 0 0, .int .i64 0, .int .i64 0, .int .i64 0, .int .i64 0, .int .i64 0, .int .i64 0, .int .i64 0, .int .i64 0, .int .i64 0, .int .i64 0, .slice none 0 0, .slice none 0 0] 33)).heap.size ((w.alloc (.cells (coA c s) 33)).alloc (.cells #[.int .i64 0, .int .i64 0, .int .i64 0, .int .i64 0, .slice none 0 0, .slice none 0 0, .slice none 0 0, .int .i64 0, .int .i64 0, .int .i64 0, .int .i64 0, .int .i64 0, .int .i64 0, .int .i64 0, .int .i64 0, .int .i64 0, .int .i64 0, .slice none 0 0, .slice none 0 0] 33)) (fun _ => True)) := Lib.hid (.triv fun _ => trivial)
 refine (HO.out.l _ HB0.out).mono ?_
 rintro e w1 ⟨b1, rfl, hf1, hb⟩
 have hx := (HX0.out.below hb (by have := HX0.out.lt; omega))
 have hr := ((hb.block (w.heap.size + 1) (by have := HR0.out.lt; omega)).trans HR0.out)
 have hbb := HB0.out.trans (hb.mono HB0.out.size)
 have HF1 := Lib.hid (fr_step (p := ⟨w.heap.size, 4, none⟩) (v := .slice (some ⟨b1, 0, none⟩) s.nl s.nl) HF0.out hb hf1 (by have := HX0.out.lt; have := HR0.out.lt; omega) (by simp))
 have HX1 : Hid (CBox (w1.setCell ⟨w.heap.size, 4, none⟩ (.slice (some ⟨b1, 0, none⟩) s.nl s.nl)) w.heap.size c {s with al := some ⟨b1, 0, none⟩, cl := s.nl}) := Lib.hid (heap_setCell_row 4 _ hx)
 have HR1 : Hid (CBox (w1.setCell ⟨w.heap.size, 4, none⟩ (.slice (some ⟨b1, 0, none⟩) s.nl s.nl)) (w.heap.size + 1) co0 ly0) := Lib.hid ((heap_setCell_oth 4 _ (by omega)).trans hr)
 have HB1 := Lib.hid (hbb.setCell (p := ⟨w.heap.size, 4, none⟩) (Nat.le_refl _) (.slice (some ⟨b1, 0, none⟩) s.nl s.nl))
 obtain ⟨k0, k1, k2, k3, k4, k5, k6, k7, k8, k9, k10, k11, k12, k13, k14, k15, k16, k17, k18⟩ := hx.cells
 have f4 := froz_row (w := w1) 4 hx
 clear hx hr hbb hb hf1
 go_wp2_with (fail)
 clear k0 k1 k2 k3 k4 k5 k6 k7 k8 k9 k10 k11 k12 k13 k14 k15 k16 k17 k18 f4
 refine (HO.out.t _ HB1.out).mono ?_
 rintro e w2 ⟨b2, rfl, hf2, hb⟩
 have hx := (HX1.out.below hb (by have := HX1.out.lt; omega))
 have hr := ((hb.block (w.heap.size + 1) (by have := HR1.out.lt; omega)).trans HR1.out)
 have hbb := HB1.out.trans (hb.mono HB1.out.size)
 have HF2 := Lib.hid (fr_step (p := ⟨w.heap.size, 5, none⟩) (v := .slice (some ⟨b2, 0, none⟩) s.nt s.nt) HF1.out hb hf2 (by have := HX1.out.lt; have := HR1.out.lt; omega) (by simp))
 have HX2 : Hid (CBox (w2.setCell ⟨w.heap.size, 5, none⟩ (.slice (some ⟨b2, 0, none⟩) s.nt s.nt)) w.heap.size c {s with al := some ⟨b1, 0, none⟩, cl := s.nl, at' := some ⟨b2, 0, none⟩, ct := s.nt}) := Lib.hid (heap_setCell_row 5 _ hx)
 have HR2 : Hid (CBox (w2.setCell ⟨w.heap.size, 5, none⟩ (.slice (some ⟨b2, 0, none⟩) s.nt s.nt)) (w.heap.size + 1) co0 ly0) := Lib.hid ((heap_setCell_oth 5 _ (by omega)).trans hr)
 have HB2 := Lib.hid (hbb.setCell (p := ⟨w.heap.size, 5, none⟩) (Nat.le_refl _) (.slice (some ⟨b2, 0, none⟩) s.nt s.nt))
 obtain ⟨k0, k1, k2, k3, k4, k5, k6, k7, k8, k9, k10, k11, k12, k13, k14, k15, k16, k17, k18⟩ := hx.cells
 have f4 := froz_row (w := w2) 5 hx
 clear hx hr hbb hb hf2
 go_wp2_with (fail)
 clear k0 k1 k2 k3 k4 k5 k6 k7 k8 k9 k10 k11 k12 k13 k14 k15 k16 k17 k18 f4
 refine (HO.out.p _ HB2.out).mono ?_
 rintro e w3 ⟨b3, rfl, hf3, hb⟩
 have hx := (HX2.out.below hb (by have := HX2.out.lt; omega))
 have hr := ((hb.block (w.heap.size + 1) (by have := HR2.out.lt; omega)).trans HR2.out)
 have hbb := HB2.out.trans (hb.mono HB2.out.size)
 have HF3 := Lib.hid (fr_step (p := ⟨w.heap.size, 6, none⟩) (v := .slice (some ⟨b3, 0, none⟩) s.np s.np) HF2.out hb hf3 (by have := HX2.out.lt; have := HR2.out.lt; omega) (by simp))
 have HX3 : Hid (CBox (w3.setCell ⟨w.heap.size, 6, none⟩ (.slice (some ⟨b3, 0, none⟩) s.np s.np)) w.heap.size c {s with al := some ⟨b1, 0, none⟩, cl := s.nl, at' := some ⟨b2, 0, none⟩, ct := s.nt, ap := some ⟨b3, 0, none⟩, cp := s.np}) := Lib.hid (heap_setCell_row 6 _ hx)
 have HR3 : Hid (CBox (w3.setCell ⟨w.heap.size, 6, none⟩ (.slice (some ⟨b3, 0, none⟩) s.np s.np)) (w.heap.size + 1) co0 ly0) := Lib.hid ((heap_setCell_oth 6 _ (by omega)).trans hr)
 have HB3 := Lib.hid (hbb.setCell (p := ⟨w.heap.size, 6, none⟩) (Nat.le_refl _) (.slice (some ⟨b3, 0, none⟩) s.np s.np))
 obtain ⟨k0, k1, k2, k3, k4, k5, k6, k7, k8, k9, k10, k11, k12, k13, k14, k15, k16, k17, k18⟩ := hx.cells
 have f4 := froz_row (w := w3) 6 hx
 clear hx hr hbb hb hf3
 go_wp2_with (fail)
 clear k0 k1 k2 k3 k4 k5 k6 k7 k8 k9 k10 k11 k12 k13 k14 k15 k16 k17 k18 f4
 refine (HO.out.z _ HB3.out).mono ?_
 rintro e w4 ⟨b4, rfl, hf4, hb⟩
 have hx := (HX3.out.below hb (by have := HX3.out.lt; omega))
 have hr := ((hb.block (w.heap.size + 1) (by have := HR3.out.lt; omega)).trans HR3.out)
 have hbb := HB3.out.trans (hb.mono HB3.out.size)
 have HF4 := Lib.hid (fr_step (p := ⟨w.heap.size, 17, none⟩) (v := .slice (some ⟨b4, 0, none⟩) s.nz s.nz) HF3.out hb hf4 (by have := HX3.out.lt; have := HR3.out.lt; omega) (by simp))
 have HX4 : Hid (CBox (w4.setCell ⟨w.heap.size, 17, none⟩ (.slice (some ⟨b4, 0, none⟩) s.nz s.nz)) w.heap.size c {s with al := some ⟨b1, 0, none⟩, cl := s.nl, at' := some ⟨b2, 0, none⟩, ct := s.nt, ap := some ⟨b3, 0, none⟩, cp := s.np, az := some ⟨b4, 0, none⟩, cz := s.nz}) := Lib.hid (heap_setCell_row 17 _ hx)
 have HR4 : Hid (CBox (w4.setCell ⟨w.heap.size, 17, none⟩ (.slice (some ⟨b4, 0, none⟩) s.nz s.nz)) (w.heap.size + 1) co0 ly0) := Lib.hid ((heap_setCell_oth 17 _ (by omega)).trans hr)
 have HB4 := Lib.hid (hbb.setCell (p := ⟨w.heap.size, 17, none⟩) (Nat.le_refl _) (.slice (some ⟨b4, 0, none⟩) s.nz s.nz))
 obtain ⟨k0, k1, k2, k3, k4, k5, k6, k7, k8, k9, k10, k11, k12, k13, k14, k15, k16, k17, k18⟩ := hx.cells
 have f4 := froz_row (w := w4) 17 hx
 clear hx hr hbb hb hf4
 go_wp2_with (fail)
 clear k0 k1 k2 k3 k4 k5 k6 k7 k8 k9 k10 k11 k12 k13 k14 k15 k16 k17 k18 f4
 refine (HO.out.j _ HB4.out).mono ?_
 rintro e w5 ⟨b5, rfl, hf5, hb⟩
 have hx := (HX4.out.below hb (by have := HX4.out.lt; omega))
 have hr := ((hb.block (w.heap.size + 1) (by have := HR4.out.lt; omega)).trans HR4.out)
 have hbb := HB4.out.trans (hb.mono HB4.out.size)
 have HF5 := Lib.hid (fr_step (p := ⟨w.heap.size, 18, none⟩) (v := .slice (some ⟨b5, 0, none⟩) s.nj s.nj) HF4.out hb hf5 (by have := HX4.out.lt; have := HR4.out.lt; omega) (by simp))
 have HX5 : Hid (CBox (w5.setCell ⟨w.heap.size, 18, none⟩ (.slice (some ⟨b5, 0, none⟩) s.nj s.nj)) w.heap.size c {s with al := some ⟨b1, 0, none⟩, cl := s.nl, at' := some ⟨b2, 0, none⟩, ct := s.nt, ap := some ⟨b3, 0, none⟩, cp := s.np, az := some ⟨b4, 0, none⟩, cz := s.nz, aj := some ⟨b5, 0, none⟩, cj := s.nj}) := Lib.hid (heap_setCell_row 18 _ hx)
 have HR5 : Hid (CBox (w5.setCell ⟨w.heap.size, 18, none⟩ (.slice (some ⟨b5, 0, none⟩) s.nj s.nj)) (w.heap.size + 1) co0 ly0) := Lib.hid ((heap_setCell_oth 18 _ (by omega)).trans hr)
 have HB5 := Lib.hid (hbb.setCell (p := ⟨w.heap.size, 18, none⟩) (Nat.le_refl _) (.slice (some ⟨b5, 0, none⟩) s.nj s.nj))
 obtain ⟨k0, k1, k2, k3, k4, k5, k6, k7, k8, k9, k10, k11, k12, k13, k14, k15, k16, k17, k18⟩ := hx.cells
 have f4 := froz_row (w := w5) 18 hx
 clear hx hr hbb hb hf5
 go_wp2_with (first | (refine wpList_load_row rfl 33 (.tmp 1) rfl w.heap.size rfl 33 (coA c {s with al := some ⟨b1, 0, none⟩, cl := s.nl, at' := some ⟨b2, 0, none⟩, ct := s.nt, ap := some ⟨b3, 0, none⟩, cp := s.np, az := some ⟨b4, 0, none⟩, cz := s.nz, aj := some ⟨b5, 0, none⟩, cj := s.nj}) (0, 0) _ HX5.out Tryz.underlying33 rfl (coInfo c {s with al := some ⟨b1, 0, none⟩, cl := s.nl, at' := some ⟨b2, 0, none⟩, ct := s.nt, ap := some ⟨b3, 0, none⟩, cp := s.np, az := some ⟨b4, 0, none⟩, cz := s.nz, aj := some ⟨b5, 0, none⟩, cj := s.nj}) ?_) | (refine wpList_store_row rfl 33 (.tmp 2) (.tmp 23) rfl (w.heap.size + 1) (coA c {s with al := some ⟨b1, 0, none⟩, cl := s.nl, at' := some ⟨b2, 0, none⟩, ct := s.nt, ap := some ⟨b3, 0, none⟩, cp := s.np, az := some ⟨b4, 0, none⟩, cz := s.nz, aj := some ⟨b5, 0, none⟩, cj := s.nj}) rfl rfl 33 (coA co0 ly0) HR5.out (coInfo c {s with al := some ⟨b1, 0, none⟩, cl := s.nl, at' := some ⟨b2, 0, none⟩, ct := s.nt, ap := some ⟨b3, 0, none⟩, cp := s.np, az := some ⟨b4, 0, none⟩, cz := s.nz, aj := some ⟨b5, 0, none⟩, cj := s.nj}) rfl (coOne c {s with al := some ⟨b1, 0, none⟩, cl := s.nl, at' := some ⟨b2, 0, none⟩, ct := s.nt, ap := some ⟨b3, 0, none⟩, cp := s.np, az := some ⟨b4, 0, none⟩, cz := s.nz, aj := some ⟨b5, 0, none⟩, cj := s.nj}) ?_))
 clear k0 k1 k2 k3 k4 k5 k6 k7 k8 k9 k10 k11 k12 k13 k14 k15 k16 k17 k18 f4
 refine bodyPost_ret (v := .agg (coA c {s with al := some ⟨b1, 0, none⟩, cl := s.nl, at' := some ⟨b2, 0, none⟩, ct := s.nt, ap := some ⟨b3, 0, none⟩, cp := s.np, az := some ⟨b4, 0, none⟩, cz := s.nz, aj := some ⟨b5, 0, none⟩, cj := s.nj})) (results_cell_row (p := 2) (ty := 33) Tryz.results55 _ _ (w.heap.size + 1) 33 (coA c {s with al := some ⟨b1, 0, none⟩, cl := s.nl, at' := some ⟨b2, 0, none⟩, ct := s.nt, ap := some ⟨b3, 0, none⟩, cp := s.np, az := some ⟨b4, 0, none⟩, cz := s.nz, aj := some ⟨b5, 0, none⟩, cj := s.nj}) (0, 0) _ rfl (setRow_heap _ _ _ _ _ _ HR5.out) Tryz.underlying33 rfl (coInfo c {s with al := some ⟨b1, 0, none⟩, cl := s.nl, at' := some ⟨b2, 0, none⟩, ct := s.nt, ap := some ⟨b3, 0, none⟩, cp := s.np, az := some ⟨b4, 0, none⟩, cz := s.nz, aj := some ⟨b5, 0, none⟩, cj := s.nj})) rfl ⟨{s with al := some ⟨b1, 0, none⟩, cl := s.nl, at' := some ⟨b2, 0, none⟩, ct := s.nt, ap := some ⟨b3, 0, none⟩, cp := s.np, az := some ⟨b4, 0, none⟩, cz := s.nz, aj := some ⟨b5, 0, none⟩, cj := s.nj}, rfl, ?_, ?_⟩
 ·refine ((fr_row HF5.out (by omega)).wide (by omega) (Nat.le_refl _)).imp ?_
  rintro z ⟨⟨⟨⟨⟨_, g1⟩, g2⟩, g3⟩, g4⟩, g5⟩
  exact ⟨g1, g2, g3, g4, g5, HC.out.nl, HC.out.nt, HC.out.np, HC.out.nz, HC.out.nj, HC.out.ml, HC.out.mt, HC.out.mp, HC.out.mz, HC.out.mj, HC.out.wf⟩
 ·exact below_setRow HB5.out (by omega) _
end Go.Proofs.YtkalfdjmklakdaaGreatDoor
namespace Go.Proofs.YtkalfdjmklakdaaGreatDoor
open Go.RowKit
theorem wpList_run_app {ops : Array Oper} {rest : List Oper} {o : Oper} {a : Act} {Q : Exit → Act → World → Prop} (w : World) (hgd : o.guard = none) (s x : Operand) (t : TypeId)
 (ho : o.op = .call { callee := .builtin .append, args := #[s, x], argTypes := #[t, t] }) {v u : Value} (hs : a.eval s = v) (hx : a.eval x = u) {P : Value → World → Prop}
 (hrun : ∃ v' w', (Builtin.append_ #[t, t] o.type #[v, u]).run Tryz.prog w = .ok v' w' ∧ P v' w')
 (h : ∀ v' w', P v' w' → wpList Tryz.prog ops Q rest (a.put o.dst v') w') :
 wpList Tryz.prog ops Q (o :: rest) a w := by
 obtain ⟨v', w', hr, h2⟩ := hrun
 refine wpList_plain hgd fun _ hK => ?_
 unfold Oper.wp execOp
 simp only [ho, resolve, invoke, builtin, Sem.run_bind, Sem.run_pure, Result.andThen_ok, List.map_toArray, List.map_cons, List.map_nil, hs, hx, hr]
 exact hK _ _ (h v' w' h2)
def vEx (r : Ex) (a : Option Addr) (c : Nat) : List Value := [.int .i64 r.k, .int .i64 r.n, .string r.s, .slice a r.m c]
theorem info_Ex : (Tryz.prog.info? 71).map (fun i => (i.zero, i.size, i.bytes)) = some (some (.agg #[.int .i64 0, .int .i64 0, .string ⟨#[]⟩, .slice none 0 0]), 4, 56) := by kernel_rfl
theorem make_Ex (n : Nat) (h : n * 56 ≤ 140737488355328) (w : World) : ∃ Z : Array Value, Z.size = n * 4 ∧
 (Instr.makeSlice 69 (.int .i64 0) (.int .i64 (n : Int))).run Tryz.prog w = .ok (.slice (some ⟨w.heap.size, 0, none⟩) 0 n) (w.alloc (.cells Z 71)) := by
 obtain ⟨i0, hi, hz0, hz1, hz2⟩ := info_parts info_Ex
 have h := run_make (P := Tryz.prog) w 69 71 i0 _ Tryz.underlying69 hi hz0 .i64 .i64 0 (n : Int) (by omega) (by omega) (by rw [hz2]; omega) (by omega)
 rw [hz1] at h
 exact ⟨madeCells #[.int .i64 0, .int .i64 0, .string ⟨#[]⟩, .slice none 0 0] (n * 4), size_madeCells _ _, by simpa [Value.cells] using h⟩
theorem app_Ex (r : Ex) (a : Option Addr) (c : Nat) (W : World) (ty : TypeId) (g n k : Nat) (hk : k < n) (hf : ∀ i, i < n * 4 → (W.cell? ⟨g, i, none⟩).isSome = true ∧ W.frozen? ⟨g, i, none⟩ = false) (hg : g < W.heap.size) :
 ∃ v' w', (Builtin.append_ #[69, 69] ty #[.slice (some ⟨g, 0, none⟩) k n, .slice (some ⟨W.heap.size, 0, none⟩) 1 1]).run Tryz.prog (W.alloc (.cells #[.int .i64 r.k, .int .i64 r.n, .string r.s, .slice a r.m c] 71)) = .ok v' w' ∧
   (v' = .slice (some ⟨g, 0, none⟩) (k + 1) n ∧ w' = (W.alloc (.cells #[.int .i64 r.k, .int .i64 r.n, .string r.s, .slice a r.m c] 71)).setCells g (k * 4) (vEx r a c)) := by
 obtain ⟨i0, hi, hz0, hz1, hz2⟩ := info_parts info_Ex
 have hkk : (k + 1) * 4 ≤ n * 4 := Nat.mul_le_mul_right 4 hk
 have hb := kbelow_box W (.cells #[.int .i64 r.k, .int .i64 r.n, .string r.s, .slice a r.m c] 71)
 have h := run_append_room_cells (P := Tryz.prog) (W.alloc (.cells #[.int .i64 r.k, .int .i64 r.n, .string r.s, .slice a r.m c] 71)) 69 ty 71 i0 Tryz.underlying69 hi g 0 k n ⟨W.heap.size, 0, none⟩ 1 1 (vEx r a c) (by rw [hz1]; rfl) (fun j u hu => by
  rw [Addr.add_lit, Nat.zero_add, cell_of_row _ _ _ _ _ _ (heap_alloc_new W _), show (#[.int .i64 r.k, .int .i64 r.n, .string r.s, .slice a r.m c] : Array Value) = (vEx r a c).toArray from rfl, List.getElem?_toArray]
  exact hu) (by simp [vEx, Value.oneCell']) (by omega) (fun j hj => by
  rw [hz1, Nat.zero_add, hb.cell (p := ⟨g, k * 4 + j, none⟩) hg]
  exact (hf _ (by have : j < 4 := hj; omega)).1) (fun j hj => by
  rw [hz1, Nat.zero_add, World.frozen?_of_block (w := W) (a := ⟨g, k * 4 + j, none⟩) (hb.block _ hg)]
  exact (hf _ (by have : j < 4 := hj; omega)).2)
 rw [hz1, Nat.zero_add] at h
 exact ⟨_, _, h, rfl, rfl⟩
set_option maxRecDepth 100000 in
set_option maxHeartbeats 2000000 in
theorem copiesEx (G : FuncId) (a : Option Addr) (n cap : Nat) (l : Nat → Ex) (Sub : World → Nat → Option Addr → Prop) (w : World) (hm : n ≤ maxLen) (hby : n * 56 ≤ 140737488355328)
 (hsrc : n = 0 ∨ ∃ b off, a = some ⟨b, off, none⟩ ∧ ∀ w', Below w.heap.size w w' → ∀ k, k < n → ∃ (ax : Option Addr) (cx : Nat), CellsV w' b (off + k * 4) (vEx (l k) ax cx) ∧ Sub w' k ax)
 (hsub : ∀ w' w'' k ax, Below w'.heap.size w' w'' → Sub w' k ax → Sub w'' k ax)
 (hF : ∀ v w, (callFunc G #[v]).run Tryz.prog w = .ok (.enter G #[v]) w)
 (hdo : ∀ k, k < n → ∀ w' ax cx, Below w.heap.size w w' → Sub w' k ax → Calls Tryz.prog G #[.agg #[.int .i64 (l k).k, .int .i64 (l k).n, .string (l k).s, .slice ax (l k).m cx]] w' fun e w'' => ∃ (ay : Option Addr) (cy : Nat), e = .returned (.agg #[.int .i64 (l k).k, .int .i64 (l k).n, .string (l k).s, .slice ay (l k).m cy]) ∧ FrP w'.heap.size w''.heap.size w'' (fun z => Sub z k ay) ∧ Below w'.heap.size w' w'') :
 Calls Tryz.prog 208 #[.slice a n cap, .func (.func G) #[] #[]] w fun e w' => e = .returned (.slice (some ⟨w.heap.size, 0, none⟩) n n) ∧ FrP w.heap.size w'.heap.size w' (fun z => w.heap.size < z.heap.size ∧ ∀ j, j < n → ∃ (ax : Option Addr) (cx : Nat), CellsV z w.heap.size (j * 4) (vEx (l j) ax cx) ∧ Sub z j ax) ∧ Below w.heap.size w w' := by
 have hm' : n ≤ 9223372036854775807 := by unfold maxLen at hm; omega
 obtain ⟨Z, hZ, hmk⟩ := make_Ex n hby w
 have HST := Lib.hid (Cps.start (K := 4) (V := fun j => vEx (l j)) (Sub := Sub) (n := n) w Z 71 hZ)
 have HSRC := Lib.hid hsrc
 have HSUB := Lib.hid hsub
 have HF := Lib.hid hF
 have HD := Lib.hid hdo
 clear hsrc hsub hF hdo hZ hm hby
 go_enter Tryz.func208, Tryz.ntmps208
 go_wp2_with fail
 clear hmk
 go_loopw [5, 13] (fun fv i wr => ∃ k : Nat, k ≤ n ∧ i = .int .i64 k ∧ fv = .slice (some ⟨w.heap.size, 0, none⟩) k n ∧ Cps 4 (fun j => vEx (l j)) Sub n k w wr) (fun _ i _ => n - (intOf i).toNat)
 case atStart => exact ⟨0, Nat.zero_le _, rfl, rfl, HST.out⟩
 case round =>
  clear HST
  obtain ⟨k, hk, rfl, rfl, hcp⟩ := hrel
  have HC := Lib.hid hcp
  clear hcp
  by_cases hlt : k < n
  ·have hlt' : (k : Int) < (n : Int) := by omega
   obtain ⟨b, off, rfl, hcell⟩ := HSRC.out.resolve_left (by omega)
   obtain ⟨ax, cx, hv, hs⟩ := hcell wr HC.out.bel k hlt
   have x0 := hv 0 _ rfl
   have x1 := hv 1 _ rfl
   have x2 := hv 2 _ rfl
   have x3 := hv 3 _ rfl
   rw [Nat.add_zero] at x0
   have hb1 := kbelow_box wr (.cells #[.int .i64 (l k).k, .int .i64 (l k).n, .string (l k).s, .slice ax (l k).m cx] 71)
   have HB1 := Lib.hid hb1
   have HDO := Lib.hid (HD.out k hlt _ ax cx (HC.out.bel.trans (hb1.mono (Nat.le_of_lt HC.out.lt))) (HSUB.out _ _ k ax hb1 hs))
   clear hcell hv hs hb1
   go_wp2_with fail
   rw [HF.out, Oper.upon_enter]
   refine HDO.out.mono ?_
   rintro e w2 ⟨ay, cy, rfl, hfr, hb2⟩
   have hb12 := HB1.out.trans (hb2.mono HB1.out.size)
   have hfree : ∀ i, i < n * 4 → (w2.cell? ⟨w.heap.size, i, none⟩).isSome = true ∧ w2.frozen? ⟨w.heap.size, i, none⟩ = false := fun i hi => by
    obtain ⟨h1, h2⟩ := HC.out.free i hi
    rw [hb12.cell (p := ⟨w.heap.size, i, none⟩) HC.out.lt, World.frozen?_of_block (w := wr) (w' := w2) (a := ⟨w.heap.size, i, none⟩) (hb12.block _ HC.out.lt)]
    exact ⟨h1, h2⟩
   have HAP := Lib.hid (app_Ex (l k) ay cy w2 69 w.heap.size n k hlt hfree (Nat.lt_of_lt_of_le HC.out.lt hb12.size))
   have hb3 := kbelow_box w2 (.cells #[.int .i64 (l k).k, .int .i64 (l k).n, .string (l k).s, .slice ay (l k).m cy] 71)
   have HCN := Lib.hid (HC.out.step (fun _ _ _ => rfl) hlt (hb12.trans (hb3.mono hb12.size)) ay cy ((hfr.move (Agree.below hb3 (Nat.le_refl _) (Nat.le_refl _))).wide HB1.out.size hb3.size))
   clear hfr hb2 hb12 hfree hb3 x0 x1 x2 x3
   go_wp2_with (first | (at_builtin; refine wpList_run_app _ rfl _ _ _ rfl rfl rfl HAP.out ?_; rintro v' w4 ⟨rfl, rfl⟩))
   go_roundw
   case rel => exact ⟨k + 1, by omega, by go_num, by first | rfl | (simp), HCN.out⟩
   case measure => simp [intOf]; omega
  ·have hkn : k = n := by omega
   subst hkn
   go_wp2_with fail
   go_ret
   exact ⟨rfl, HC.out.done, HC.out.bel⟩
def vLn (r : Ln) (a : Option Addr) (c : Nat) : List Value := [.int .i64 r.kind, .string r.name, .int .i64 r.ex.k, .int .i64 r.ex.n, .string r.ex.s, .slice a r.ex.m c]
theorem info_Ln : (Tryz.prog.info? 73).map (fun i => (i.zero, i.size, i.bytes)) = some (some (.agg #[.int .i64 0, .string ⟨#[]⟩, .int .i64 0, .int .i64 0, .string ⟨#[]⟩, .slice none 0 0]), 6, 80) := by kernel_rfl
theorem make_Ln (n : Nat) (h : n * 80 ≤ 140737488355328) (w : World) : ∃ Z : Array Value, Z.size = n * 6 ∧
 (Instr.makeSlice 24 (.int .i64 0) (.int .i64 (n : Int))).run Tryz.prog w = .ok (.slice (some ⟨w.heap.size, 0, none⟩) 0 n) (w.alloc (.cells Z 73)) := by
 obtain ⟨i0, hi, hz0, hz1, hz2⟩ := info_parts info_Ln
 have h := run_make (P := Tryz.prog) w 24 73 i0 _ Tryz.underlying24 hi hz0 .i64 .i64 0 (n : Int) (by omega) (by omega) (by rw [hz2]; omega) (by omega)
 rw [hz1] at h
 exact ⟨madeCells #[.int .i64 0, .string ⟨#[]⟩, .int .i64 0, .int .i64 0, .string ⟨#[]⟩, .slice none 0 0] (n * 6), size_madeCells _ _, by simpa [Value.cells] using h⟩
theorem app_Ln (r : Ln) (a : Option Addr) (c : Nat) (W : World) (ty : TypeId) (g n k : Nat) (hk : k < n) (hf : ∀ i, i < n * 6 → (W.cell? ⟨g, i, none⟩).isSome = true ∧ W.frozen? ⟨g, i, none⟩ = false) (hg : g < W.heap.size) :
 ∃ v' w', (Builtin.append_ #[24, 24] ty #[.slice (some ⟨g, 0, none⟩) k n, .slice (some ⟨W.heap.size, 0, none⟩) 1 1]).run Tryz.prog (W.alloc (.cells #[.int .i64 r.kind, .string r.name, .int .i64 r.ex.k, .int .i64 r.ex.n, .string r.ex.s, .slice a r.ex.m c] 73)) = .ok v' w' ∧
   (v' = .slice (some ⟨g, 0, none⟩) (k + 1) n ∧ w' = (W.alloc (.cells #[.int .i64 r.kind, .string r.name, .int .i64 r.ex.k, .int .i64 r.ex.n, .string r.ex.s, .slice a r.ex.m c] 73)).setCells g (k * 6) (vLn r a c)) := by
 obtain ⟨i0, hi, hz0, hz1, hz2⟩ := info_parts info_Ln
 have hkk : (k + 1) * 6 ≤ n * 6 := Nat.mul_le_mul_right 6 hk
 have hb := kbelow_box W (.cells #[.int .i64 r.kind, .string r.name, .int .i64 r.ex.k, .int .i64 r.ex.n, .string r.ex.s, .slice a r.ex.m c] 73)
 have h := run_append_room_cells (P := Tryz.prog) (W.alloc (.cells #[.int .i64 r.kind, .string r.name, .int .i64 r.ex.k, .int .i64 r.ex.n, .string r.ex.s, .slice a r.ex.m c] 73)) 24 ty 73 i0 Tryz.underlying24 hi g 0 k n ⟨W.heap.size, 0, none⟩ 1 1 (vLn r a c) (by rw [hz1]; rfl) (fun j u hu => by
  rw [Addr.add_lit, Nat.zero_add, cell_of_row _ _ _ _ _ _ (heap_alloc_new W _), show (#[.int .i64 r.kind, .string r.name, .int .i64 r.ex.k, .int .i64 r.ex.n, .string r.ex.s, .slice a r.ex.m c] : Array Value) = (vLn r a c).toArray from rfl, List.getElem?_toArray]
  exact hu) (by simp [vLn, Value.oneCell']) (by omega) (fun j hj => by
  rw [hz1, Nat.zero_add, hb.cell (p := ⟨g, k * 6 + j, none⟩) hg]
  exact (hf _ (by have : j < 6 := hj; omega)).1) (fun j hj => by
  rw [hz1, Nat.zero_add, World.frozen?_of_block (w := W) (a := ⟨g, k * 6 + j, none⟩) (hb.block _ hg)]
  exact (hf _ (by have : j < 6 := hj; omega)).2)
 rw [hz1, Nat.zero_add] at h
 exact ⟨_, _, h, rfl, rfl⟩
set_option maxRecDepth 100000 in
set_option maxHeartbeats 2000000 in
theorem copiesLn (G : FuncId) (a : Option Addr) (n cap : Nat) (l : Nat → Ln) (Sub : World → Nat → Option Addr → Prop) (w : World) (hm : n ≤ maxLen) (hby : n * 80 ≤ 140737488355328)
 (hsrc : n = 0 ∨ ∃ b off, a = some ⟨b, off, none⟩ ∧ ∀ w', Below w.heap.size w w' → ∀ k, k < n → ∃ (ax : Option Addr) (cx : Nat), CellsV w' b (off + k * 6) (vLn (l k) ax cx) ∧ Sub w' k ax)
 (hsub : ∀ w' w'' k ax, Below w'.heap.size w' w'' → Sub w' k ax → Sub w'' k ax)
 (hF : ∀ v w, (callFunc G #[v]).run Tryz.prog w = .ok (.enter G #[v]) w)
 (hdo : ∀ k, k < n → ∀ w' ax cx, Below w.heap.size w w' → Sub w' k ax → Calls Tryz.prog G #[.agg #[.int .i64 (l k).kind, .string (l k).name, .int .i64 (l k).ex.k, .int .i64 (l k).ex.n, .string (l k).ex.s, .slice ax (l k).ex.m cx]] w' fun e w'' => ∃ (ay : Option Addr) (cy : Nat), e = .returned (.agg #[.int .i64 (l k).kind, .string (l k).name, .int .i64 (l k).ex.k, .int .i64 (l k).ex.n, .string (l k).ex.s, .slice ay (l k).ex.m cy]) ∧ FrP w'.heap.size w''.heap.size w'' (fun z => Sub z k ay) ∧ Below w'.heap.size w' w'') :
 Calls Tryz.prog 111 #[.slice a n cap, .func (.func G) #[] #[]] w fun e w' => e = .returned (.slice (some ⟨w.heap.size, 0, none⟩) n n) ∧ FrP w.heap.size w'.heap.size w' (fun z => w.heap.size < z.heap.size ∧ ∀ j, j < n → ∃ (ax : Option Addr) (cx : Nat), CellsV z w.heap.size (j * 6) (vLn (l j) ax cx) ∧ Sub z j ax) ∧ Below w.heap.size w w' := by
 have hm' : n ≤ 9223372036854775807 := by unfold maxLen at hm; omega
 obtain ⟨Z, hZ, hmk⟩ := make_Ln n hby w
 have HST := Lib.hid (Cps.start (K := 6) (V := fun j => vLn (l j)) (Sub := Sub) (n := n) w Z 73 hZ)
 have HSRC := Lib.hid hsrc
 have HSUB := Lib.hid hsub
 have HF := Lib.hid hF
 have HD := Lib.hid hdo
 clear hsrc hsub hF hdo hZ hm hby
 go_enter Tryz.func111, Tryz.ntmps111
 go_wp2_with fail
 clear hmk
 go_loopw [5, 13] (fun fv i wr => ∃ k : Nat, k ≤ n ∧ i = .int .i64 k ∧ fv = .slice (some ⟨w.heap.size, 0, none⟩) k n ∧ Cps 6 (fun j => vLn (l j)) Sub n k w wr) (fun _ i _ => n - (intOf i).toNat)
 case atStart => exact ⟨0, Nat.zero_le _, rfl, rfl, HST.out⟩
 case round =>
  clear HST
  obtain ⟨k, hk, rfl, rfl, hcp⟩ := hrel
  have HC := Lib.hid hcp
  clear hcp
  by_cases hlt : k < n
  ·have hlt' : (k : Int) < (n : Int) := by omega
   obtain ⟨b, off, rfl, hcell⟩ := HSRC.out.resolve_left (by omega)
   obtain ⟨ax, cx, hv, hs⟩ := hcell wr HC.out.bel k hlt
   have x0 := hv 0 _ rfl
   have x1 := hv 1 _ rfl
   have x2 := hv 2 _ rfl
   have x3 := hv 3 _ rfl
   have x4 := hv 4 _ rfl
   have x5 := hv 5 _ rfl
   rw [Nat.add_zero] at x0
   have hb1 := kbelow_box wr (.cells #[.int .i64 (l k).kind, .string (l k).name, .int .i64 (l k).ex.k, .int .i64 (l k).ex.n, .string (l k).ex.s, .slice ax (l k).ex.m cx] 73)
   have HB1 := Lib.hid hb1
   have HDO := Lib.hid (HD.out k hlt _ ax cx (HC.out.bel.trans (hb1.mono (Nat.le_of_lt HC.out.lt))) (HSUB.out _ _ k ax hb1 hs))
   clear hcell hv hs hb1
   go_wp2_with fail
   rw [HF.out, Oper.upon_enter]
   refine HDO.out.mono ?_
   rintro e w2 ⟨ay, cy, rfl, hfr, hb2⟩
   have hb12 := HB1.out.trans (hb2.mono HB1.out.size)
   have hfree : ∀ i, i < n * 6 → (w2.cell? ⟨w.heap.size, i, none⟩).isSome = true ∧ w2.frozen? ⟨w.heap.size, i, none⟩ = false := fun i hi => by
    obtain ⟨h1, h2⟩ := HC.out.free i hi
    rw [hb12.cell (p := ⟨w.heap.size, i, none⟩) HC.out.lt, World.frozen?_of_block (w := wr) (w' := w2) (a := ⟨w.heap.size, i, none⟩) (hb12.block _ HC.out.lt)]
    exact ⟨h1, h2⟩
   have HAP := Lib.hid (app_Ln (l k) ay cy w2 24 w.heap.size n k hlt hfree (Nat.lt_of_lt_of_le HC.out.lt hb12.size))
   have hb3 := kbelow_box w2 (.cells #[.int .i64 (l k).kind, .string (l k).name, .int .i64 (l k).ex.k, .int .i64 (l k).ex.n, .string (l k).ex.s, .slice ay (l k).ex.m cy] 73)
   have HCN := Lib.hid (HC.out.step (fun _ _ _ => rfl) hlt (hb12.trans (hb3.mono hb12.size)) ay cy ((hfr.move (Agree.below hb3 (Nat.le_refl _) (Nat.le_refl _))).wide HB1.out.size hb3.size))
   clear hfr hb2 hb12 hfree hb3 x0 x1 x2 x3 x4 x5
   go_wp2_with (first | (at_builtin; refine wpList_run_app _ rfl _ _ _ rfl rfl rfl HAP.out ?_; rintro v' w4 ⟨rfl, rfl⟩))
   go_roundw
   case rel => exact ⟨k + 1, by omega, by go_num, by first | rfl | (simp), HCN.out⟩
   case measure => simp [intOf]; omega
  ·have hkn : k = n := by omega
   subst hkn
   go_wp2_with fail
   go_ret
   exact ⟨rfl, HC.out.done, HC.out.bel⟩
def vTb (r : Tb) (a : Option Addr) (c : Nat) : List Value := [.string r.name, .slice a r.bks.length c]
theorem info_Tb : (Tryz.prog.info? 135).map (fun i => (i.zero, i.size, i.bytes)) = some (some (.agg #[.string ⟨#[]⟩, .slice none 0 0]), 2, 40) := by kernel_rfl
theorem make_Tb (n : Nat) (h : n * 40 ≤ 140737488355328) (w : World) : ∃ Z : Array Value, Z.size = n * 2 ∧
 (Instr.makeSlice 25 (.int .i64 0) (.int .i64 (n : Int))).run Tryz.prog w = .ok (.slice (some ⟨w.heap.size, 0, none⟩) 0 n) (w.alloc (.cells Z 135)) := by
 obtain ⟨i0, hi, hz0, hz1, hz2⟩ := info_parts info_Tb
 have h := run_make (P := Tryz.prog) w 25 135 i0 _ Tryz.underlying25 hi hz0 .i64 .i64 0 (n : Int) (by omega) (by omega) (by rw [hz2]; omega) (by omega)
 rw [hz1] at h
 exact ⟨madeCells #[.string ⟨#[]⟩, .slice none 0 0] (n * 2), size_madeCells _ _, by simpa [Value.cells] using h⟩
theorem app_Tb (r : Tb) (a : Option Addr) (c : Nat) (W : World) (ty : TypeId) (g n k : Nat) (hk : k < n) (hf : ∀ i, i < n * 2 → (W.cell? ⟨g, i, none⟩).isSome = true ∧ W.frozen? ⟨g, i, none⟩ = false) (hg : g < W.heap.size) :
 ∃ v' w', (Builtin.append_ #[25, 25] ty #[.slice (some ⟨g, 0, none⟩) k n, .slice (some ⟨W.heap.size, 0, none⟩) 1 1]).run Tryz.prog (W.alloc (.cells #[.string r.name, .slice a r.bks.length c] 135)) = .ok v' w' ∧
   (v' = .slice (some ⟨g, 0, none⟩) (k + 1) n ∧ w' = (W.alloc (.cells #[.string r.name, .slice a r.bks.length c] 135)).setCells g (k * 2) (vTb r a c)) := by
 obtain ⟨i0, hi, hz0, hz1, hz2⟩ := info_parts info_Tb
 have hkk : (k + 1) * 2 ≤ n * 2 := Nat.mul_le_mul_right 2 hk
 have hb := kbelow_box W (.cells #[.string r.name, .slice a r.bks.length c] 135)
 have h := run_append_room_cells (P := Tryz.prog) (W.alloc (.cells #[.string r.name, .slice a r.bks.length c] 135)) 25 ty 135 i0 Tryz.underlying25 hi g 0 k n ⟨W.heap.size, 0, none⟩ 1 1 (vTb r a c) (by rw [hz1]; rfl) (fun j u hu => by
  rw [Addr.add_lit, Nat.zero_add, cell_of_row _ _ _ _ _ _ (heap_alloc_new W _), show (#[.string r.name, .slice a r.bks.length c] : Array Value) = (vTb r a c).toArray from rfl, List.getElem?_toArray]
  exact hu) (by simp [vTb, Value.oneCell']) (by omega) (fun j hj => by
  rw [hz1, Nat.zero_add, hb.cell (p := ⟨g, k * 2 + j, none⟩) hg]
  exact (hf _ (by have : j < 2 := hj; omega)).1) (fun j hj => by
  rw [hz1, Nat.zero_add, World.frozen?_of_block (w := W) (a := ⟨g, k * 2 + j, none⟩) (hb.block _ hg)]
  exact (hf _ (by have : j < 2 := hj; omega)).2)
 rw [hz1, Nat.zero_add] at h
 exact ⟨_, _, h, rfl, rfl⟩
set_option maxRecDepth 100000 in
set_option maxHeartbeats 2000000 in
theorem copiesTb (G : FuncId) (a : Option Addr) (n cap : Nat) (l : Nat → Tb) (Sub : World → Nat → Option Addr → Prop) (w : World) (hm : n ≤ maxLen) (hby : n * 40 ≤ 140737488355328)
 (hsrc : n = 0 ∨ ∃ b off, a = some ⟨b, off, none⟩ ∧ ∀ w', Below w.heap.size w w' → ∀ k, k < n → ∃ (ax : Option Addr) (cx : Nat), CellsV w' b (off + k * 2) (vTb (l k) ax cx) ∧ Sub w' k ax)
 (hsub : ∀ w' w'' k ax, Below w'.heap.size w' w'' → Sub w' k ax → Sub w'' k ax)
 (hF : ∀ v w, (callFunc G #[v]).run Tryz.prog w = .ok (.enter G #[v]) w)
 (hdo : ∀ k, k < n → ∀ w' ax cx, Below w.heap.size w w' → Sub w' k ax → Calls Tryz.prog G #[.agg #[.string (l k).name, .slice ax (l k).bks.length cx]] w' fun e w'' => ∃ (ay : Option Addr) (cy : Nat), e = .returned (.agg #[.string (l k).name, .slice ay (l k).bks.length cy]) ∧ FrP w'.heap.size w''.heap.size w'' (fun z => Sub z k ay) ∧ Below w'.heap.size w' w'') :
 Calls Tryz.prog 113 #[.slice a n cap, .func (.func G) #[] #[]] w fun e w' => e = .returned (.slice (some ⟨w.heap.size, 0, none⟩) n n) ∧ FrP w.heap.size w'.heap.size w' (fun z => w.heap.size < z.heap.size ∧ ∀ j, j < n → ∃ (ax : Option Addr) (cx : Nat), CellsV z w.heap.size (j * 2) (vTb (l j) ax cx) ∧ Sub z j ax) ∧ Below w.heap.size w w' := by
 have hm' : n ≤ 9223372036854775807 := by unfold maxLen at hm; omega
 obtain ⟨Z, hZ, hmk⟩ := make_Tb n hby w
 have HST := Lib.hid (Cps.start (K := 2) (V := fun j => vTb (l j)) (Sub := Sub) (n := n) w Z 135 hZ)
 have HSRC := Lib.hid hsrc
 have HSUB := Lib.hid hsub
 have HF := Lib.hid hF
 have HD := Lib.hid hdo
 clear hsrc hsub hF hdo hZ hm hby
 go_enter Tryz.func113, Tryz.ntmps113
 go_wp2_with fail
 clear hmk
 go_loopw [5, 13] (fun fv i wr => ∃ k : Nat, k ≤ n ∧ i = .int .i64 k ∧ fv = .slice (some ⟨w.heap.size, 0, none⟩) k n ∧ Cps 2 (fun j => vTb (l j)) Sub n k w wr) (fun _ i _ => n - (intOf i).toNat)
 case atStart => exact ⟨0, Nat.zero_le _, rfl, rfl, HST.out⟩
 case round =>
  clear HST
  obtain ⟨k, hk, rfl, rfl, hcp⟩ := hrel
  have HC := Lib.hid hcp
  clear hcp
  by_cases hlt : k < n
  ·have hlt' : (k : Int) < (n : Int) := by omega
   obtain ⟨b, off, rfl, hcell⟩ := HSRC.out.resolve_left (by omega)
   obtain ⟨ax, cx, hv, hs⟩ := hcell wr HC.out.bel k hlt
   have x0 := hv 0 _ rfl
   have x1 := hv 1 _ rfl
   rw [Nat.add_zero] at x0
   have hb1 := kbelow_box wr (.cells #[.string (l k).name, .slice ax (l k).bks.length cx] 135)
   have HB1 := Lib.hid hb1
   have HDO := Lib.hid (HD.out k hlt _ ax cx (HC.out.bel.trans (hb1.mono (Nat.le_of_lt HC.out.lt))) (HSUB.out _ _ k ax hb1 hs))
   clear hcell hv hs hb1
   go_wp2_with fail
   rw [HF.out, Oper.upon_enter]
   refine HDO.out.mono ?_
   rintro e w2 ⟨ay, cy, rfl, hfr, hb2⟩
   have hb12 := HB1.out.trans (hb2.mono HB1.out.size)
   have hfree : ∀ i, i < n * 2 → (w2.cell? ⟨w.heap.size, i, none⟩).isSome = true ∧ w2.frozen? ⟨w.heap.size, i, none⟩ = false := fun i hi => by
    obtain ⟨h1, h2⟩ := HC.out.free i hi
    rw [hb12.cell (p := ⟨w.heap.size, i, none⟩) HC.out.lt, World.frozen?_of_block (w := wr) (w' := w2) (a := ⟨w.heap.size, i, none⟩) (hb12.block _ HC.out.lt)]
    exact ⟨h1, h2⟩
   have HAP := Lib.hid (app_Tb (l k) ay cy w2 25 w.heap.size n k hlt hfree (Nat.lt_of_lt_of_le HC.out.lt hb12.size))
   have hb3 := kbelow_box w2 (.cells #[.string (l k).name, .slice ay (l k).bks.length cy] 135)
   have HCN := Lib.hid (HC.out.step (fun _ _ _ => rfl) hlt (hb12.trans (hb3.mono hb12.size)) ay cy ((hfr.move (Agree.below hb3 (Nat.le_refl _) (Nat.le_refl _))).wide HB1.out.size hb3.size))
   clear hfr hb2 hb12 hfree hb3 x0 x1
   go_wp2_with (first | (at_builtin; refine wpList_run_app _ rfl _ _ _ rfl rfl rfl HAP.out ?_; rintro v' w4 ⟨rfl, rfl⟩))
   go_roundw
   case rel => exact ⟨k + 1, by omega, by go_num, by first | rfl | (simp), HCN.out⟩
   case measure => simp [intOf]; omega
  ·have hkn : k = n := by omega
   subst hkn
   go_wp2_with fail
   go_ret
   exact ⟨rfl, HC.out.done, HC.out.bel⟩
def vPs (r : Ps) (a : Option Addr) (c : Nat) : List Value := [.int .i64 r.num, .string r.name, .string r.acc, .slice a r.ins.length c]
theorem info_Ps : (Tryz.prog.info? 57).map (fun i => (i.zero, i.size, i.bytes)) = some (some (.agg #[.int .i64 0, .string ⟨#[]⟩, .string ⟨#[]⟩, .slice none 0 0]), 4, 64) := by kernel_rfl
theorem make_Ps (n : Nat) (h : n * 64 ≤ 140737488355328) (w : World) : ∃ Z : Array Value, Z.size = n * 4 ∧
 (Instr.makeSlice 26 (.int .i64 0) (.int .i64 (n : Int))).run Tryz.prog w = .ok (.slice (some ⟨w.heap.size, 0, none⟩) 0 n) (w.alloc (.cells Z 57)) := by
 obtain ⟨i0, hi, hz0, hz1, hz2⟩ := info_parts info_Ps
 have h := run_make (P := Tryz.prog) w 26 57 i0 _ Tryz.underlying26 hi hz0 .i64 .i64 0 (n : Int) (by omega) (by omega) (by rw [hz2]; omega) (by omega)
 rw [hz1] at h
 exact ⟨madeCells #[.int .i64 0, .string ⟨#[]⟩, .string ⟨#[]⟩, .slice none 0 0] (n * 4), size_madeCells _ _, by simpa [Value.cells] using h⟩
theorem app_Ps (r : Ps) (a : Option Addr) (c : Nat) (W : World) (ty : TypeId) (g n k : Nat) (hk : k < n) (hf : ∀ i, i < n * 4 → (W.cell? ⟨g, i, none⟩).isSome = true ∧ W.frozen? ⟨g, i, none⟩ = false) (hg : g < W.heap.size) :
 ∃ v' w', (Builtin.append_ #[26, 26] ty #[.slice (some ⟨g, 0, none⟩) k n, .slice (some ⟨W.heap.size, 0, none⟩) 1 1]).run Tryz.prog (W.alloc (.cells #[.int .i64 r.num, .string r.name, .string r.acc, .slice a r.ins.length c] 57)) = .ok v' w' ∧
   (v' = .slice (some ⟨g, 0, none⟩) (k + 1) n ∧ w' = (W.alloc (.cells #[.int .i64 r.num, .string r.name, .string r.acc, .slice a r.ins.length c] 57)).setCells g (k * 4) (vPs r a c)) := by
 obtain ⟨i0, hi, hz0, hz1, hz2⟩ := info_parts info_Ps
 have hkk : (k + 1) * 4 ≤ n * 4 := Nat.mul_le_mul_right 4 hk
 have hb := kbelow_box W (.cells #[.int .i64 r.num, .string r.name, .string r.acc, .slice a r.ins.length c] 57)
 have h := run_append_room_cells (P := Tryz.prog) (W.alloc (.cells #[.int .i64 r.num, .string r.name, .string r.acc, .slice a r.ins.length c] 57)) 26 ty 57 i0 Tryz.underlying26 hi g 0 k n ⟨W.heap.size, 0, none⟩ 1 1 (vPs r a c) (by rw [hz1]; rfl) (fun j u hu => by
  rw [Addr.add_lit, Nat.zero_add, cell_of_row _ _ _ _ _ _ (heap_alloc_new W _), show (#[.int .i64 r.num, .string r.name, .string r.acc, .slice a r.ins.length c] : Array Value) = (vPs r a c).toArray from rfl, List.getElem?_toArray]
  exact hu) (by simp [vPs, Value.oneCell']) (by omega) (fun j hj => by
  rw [hz1, Nat.zero_add, hb.cell (p := ⟨g, k * 4 + j, none⟩) hg]
  exact (hf _ (by have : j < 4 := hj; omega)).1) (fun j hj => by
  rw [hz1, Nat.zero_add, World.frozen?_of_block (w := W) (a := ⟨g, k * 4 + j, none⟩) (hb.block _ hg)]
  exact (hf _ (by have : j < 4 := hj; omega)).2)
 rw [hz1, Nat.zero_add] at h
 exact ⟨_, _, h, rfl, rfl⟩
set_option maxRecDepth 100000 in
set_option maxHeartbeats 2000000 in
theorem copiesPs (G : FuncId) (a : Option Addr) (n cap : Nat) (l : Nat → Ps) (Sub : World → Nat → Option Addr → Prop) (w : World) (hm : n ≤ maxLen) (hby : n * 64 ≤ 140737488355328)
 (hsrc : n = 0 ∨ ∃ b off, a = some ⟨b, off, none⟩ ∧ ∀ w', Below w.heap.size w w' → ∀ k, k < n → ∃ (ax : Option Addr) (cx : Nat), CellsV w' b (off + k * 4) (vPs (l k) ax cx) ∧ Sub w' k ax)
 (hsub : ∀ w' w'' k ax, Below w'.heap.size w' w'' → Sub w' k ax → Sub w'' k ax)
 (hF : ∀ v w, (callFunc G #[v]).run Tryz.prog w = .ok (.enter G #[v]) w)
 (hdo : ∀ k, k < n → ∀ w' ax cx, Below w.heap.size w w' → Sub w' k ax → Calls Tryz.prog G #[.agg #[.int .i64 (l k).num, .string (l k).name, .string (l k).acc, .slice ax (l k).ins.length cx]] w' fun e w'' => ∃ (ay : Option Addr) (cy : Nat), e = .returned (.agg #[.int .i64 (l k).num, .string (l k).name, .string (l k).acc, .slice ay (l k).ins.length cy]) ∧ FrP w'.heap.size w''.heap.size w'' (fun z => Sub z k ay) ∧ Below w'.heap.size w' w'') :
 Calls Tryz.prog 115 #[.slice a n cap, .func (.func G) #[] #[]] w fun e w' => e = .returned (.slice (some ⟨w.heap.size, 0, none⟩) n n) ∧ FrP w.heap.size w'.heap.size w' (fun z => w.heap.size < z.heap.size ∧ ∀ j, j < n → ∃ (ax : Option Addr) (cx : Nat), CellsV z w.heap.size (j * 4) (vPs (l j) ax cx) ∧ Sub z j ax) ∧ Below w.heap.size w w' := by
 have hm' : n ≤ 9223372036854775807 := by unfold maxLen at hm; omega
 obtain ⟨Z, hZ, hmk⟩ := make_Ps n hby w
 have HST := Lib.hid (Cps.start (K := 4) (V := fun j => vPs (l j)) (Sub := Sub) (n := n) w Z 57 hZ)
 have HSRC := Lib.hid hsrc
 have HSUB := Lib.hid hsub
 have HF := Lib.hid hF
 have HD := Lib.hid hdo
 clear hsrc hsub hF hdo hZ hm hby
 go_enter Tryz.func115, Tryz.ntmps115
 go_wp2_with fail
 clear hmk
 go_loopw [5, 13] (fun fv i wr => ∃ k : Nat, k ≤ n ∧ i = .int .i64 k ∧ fv = .slice (some ⟨w.heap.size, 0, none⟩) k n ∧ Cps 4 (fun j => vPs (l j)) Sub n k w wr) (fun _ i _ => n - (intOf i).toNat)
 case atStart => exact ⟨0, Nat.zero_le _, rfl, rfl, HST.out⟩
 case round =>
  clear HST
  obtain ⟨k, hk, rfl, rfl, hcp⟩ := hrel
  have HC := Lib.hid hcp
  clear hcp
  by_cases hlt : k < n
  ·have hlt' : (k : Int) < (n : Int) := by omega
   obtain ⟨b, off, rfl, hcell⟩ := HSRC.out.resolve_left (by omega)
   obtain ⟨ax, cx, hv, hs⟩ := hcell wr HC.out.bel k hlt
   have x0 := hv 0 _ rfl
   have x1 := hv 1 _ rfl
   have x2 := hv 2 _ rfl
   have x3 := hv 3 _ rfl
   rw [Nat.add_zero] at x0
   have hb1 := kbelow_box wr (.cells #[.int .i64 (l k).num, .string (l k).name, .string (l k).acc, .slice ax (l k).ins.length cx] 57)
   have HB1 := Lib.hid hb1
   have HDO := Lib.hid (HD.out k hlt _ ax cx (HC.out.bel.trans (hb1.mono (Nat.le_of_lt HC.out.lt))) (HSUB.out _ _ k ax hb1 hs))
   clear hcell hv hs hb1
   go_wp2_with fail
   rw [HF.out, Oper.upon_enter]
   refine HDO.out.mono ?_
   rintro e w2 ⟨ay, cy, rfl, hfr, hb2⟩
   have hb12 := HB1.out.trans (hb2.mono HB1.out.size)
   have hfree : ∀ i, i < n * 4 → (w2.cell? ⟨w.heap.size, i, none⟩).isSome = true ∧ w2.frozen? ⟨w.heap.size, i, none⟩ = false := fun i hi => by
    obtain ⟨h1, h2⟩ := HC.out.free i hi
    rw [hb12.cell (p := ⟨w.heap.size, i, none⟩) HC.out.lt, World.frozen?_of_block (w := wr) (w' := w2) (a := ⟨w.heap.size, i, none⟩) (hb12.block _ HC.out.lt)]
    exact ⟨h1, h2⟩
   have HAP := Lib.hid (app_Ps (l k) ay cy w2 26 w.heap.size n k hlt hfree (Nat.lt_of_lt_of_le HC.out.lt hb12.size))
   have hb3 := kbelow_box w2 (.cells #[.int .i64 (l k).num, .string (l k).name, .string (l k).acc, .slice ay (l k).ins.length cy] 57)
   have HCN := Lib.hid (HC.out.step (fun _ _ _ => rfl) hlt (hb12.trans (hb3.mono hb12.size)) ay cy ((hfr.move (Agree.below hb3 (Nat.le_refl _) (Nat.le_refl _))).wide HB1.out.size hb3.size))
   clear hfr hb2 hb12 hfree hb3 x0 x1 x2 x3
   go_wp2_with (first | (at_builtin; refine wpList_run_app _ rfl _ _ _ rfl rfl rfl HAP.out ?_; rintro v' w4 ⟨rfl, rfl⟩))
   go_roundw
   case rel => exact ⟨k + 1, by omega, by go_num, by first | rfl | (simp), HCN.out⟩
   case measure => simp [intOf]; omega
  ·have hkn : k = n := by omega
   subst hkn
   go_wp2_with fail
   go_ret
   exact ⟨rfl, HC.out.done, HC.out.bel⟩
def vIn (r : In) (a : Option Addr) (c : Nat) : List Value := [.string r.name, .slice a r.rows.length c]
theorem info_In : (Tryz.prog.info? 60).map (fun i => (i.zero, i.size, i.bytes)) = some (some (.agg #[.string ⟨#[]⟩, .slice none 0 0]), 2, 40) := by kernel_rfl
theorem make_In (n : Nat) (h : n * 40 ≤ 140737488355328) (w : World) : ∃ Z : Array Value, Z.size = n * 2 ∧
 (Instr.makeSlice 55 (.int .i64 0) (.int .i64 (n : Int))).run Tryz.prog w = .ok (.slice (some ⟨w.heap.size, 0, none⟩) 0 n) (w.alloc (.cells Z 60)) := by
 obtain ⟨i0, hi, hz0, hz1, hz2⟩ := info_parts info_In
 have h := run_make (P := Tryz.prog) w 55 60 i0 _ Tryz.underlying55 hi hz0 .i64 .i64 0 (n : Int) (by omega) (by omega) (by rw [hz2]; omega) (by omega)
 rw [hz1] at h
 exact ⟨madeCells #[.string ⟨#[]⟩, .slice none 0 0] (n * 2), size_madeCells _ _, by simpa [Value.cells] using h⟩
theorem app_In (r : In) (a : Option Addr) (c : Nat) (W : World) (ty : TypeId) (g n k : Nat) (hk : k < n) (hf : ∀ i, i < n * 2 → (W.cell? ⟨g, i, none⟩).isSome = true ∧ W.frozen? ⟨g, i, none⟩ = false) (hg : g < W.heap.size) :
 ∃ v' w', (Builtin.append_ #[55, 55] ty #[.slice (some ⟨g, 0, none⟩) k n, .slice (some ⟨W.heap.size, 0, none⟩) 1 1]).run Tryz.prog (W.alloc (.cells #[.string r.name, .slice a r.rows.length c] 60)) = .ok v' w' ∧
   (v' = .slice (some ⟨g, 0, none⟩) (k + 1) n ∧ w' = (W.alloc (.cells #[.string r.name, .slice a r.rows.length c] 60)).setCells g (k * 2) (vIn r a c)) := by
 obtain ⟨i0, hi, hz0, hz1, hz2⟩ := info_parts info_In
 have hkk : (k + 1) * 2 ≤ n * 2 := Nat.mul_le_mul_right 2 hk
 have hb := kbelow_box W (.cells #[.string r.name, .slice a r.rows.length c] 60)
 have h := run_append_room_cells (P := Tryz.prog) (W.alloc (.cells #[.string r.name, .slice a r.rows.length c] 60)) 55 ty 60 i0 Tryz.underlying55 hi g 0 k n ⟨W.heap.size, 0, none⟩ 1 1 (vIn r a c) (by rw [hz1]; rfl) (fun j u hu => by
  rw [Addr.add_lit, Nat.zero_add, cell_of_row _ _ _ _ _ _ (heap_alloc_new W _), show (#[.string r.name, .slice a r.rows.length c] : Array Value) = (vIn r a c).toArray from rfl, List.getElem?_toArray]
  exact hu) (by simp [vIn, Value.oneCell']) (by omega) (fun j hj => by
  rw [hz1, Nat.zero_add, hb.cell (p := ⟨g, k * 2 + j, none⟩) hg]
  exact (hf _ (by have : j < 2 := hj; omega)).1) (fun j hj => by
  rw [hz1, Nat.zero_add, World.frozen?_of_block (w := W) (a := ⟨g, k * 2 + j, none⟩) (hb.block _ hg)]
  exact (hf _ (by have : j < 2 := hj; omega)).2)
 rw [hz1, Nat.zero_add] at h
 exact ⟨_, _, h, rfl, rfl⟩
set_option maxRecDepth 100000 in
set_option maxHeartbeats 2000000 in
theorem copiesIn (G : FuncId) (a : Option Addr) (n cap : Nat) (l : Nat → In) (Sub : World → Nat → Option Addr → Prop) (w : World) (hm : n ≤ maxLen) (hby : n * 40 ≤ 140737488355328)
 (hsrc : n = 0 ∨ ∃ b off, a = some ⟨b, off, none⟩ ∧ ∀ w', Below w.heap.size w w' → ∀ k, k < n → ∃ (ax : Option Addr) (cx : Nat), CellsV w' b (off + k * 2) (vIn (l k) ax cx) ∧ Sub w' k ax)
 (hsub : ∀ w' w'' k ax, Below w'.heap.size w' w'' → Sub w' k ax → Sub w'' k ax)
 (hF : ∀ v w, (callFunc G #[v]).run Tryz.prog w = .ok (.enter G #[v]) w)
 (hdo : ∀ k, k < n → ∀ w' ax cx, Below w.heap.size w w' → Sub w' k ax → Calls Tryz.prog G #[.agg #[.string (l k).name, .slice ax (l k).rows.length cx]] w' fun e w'' => ∃ (ay : Option Addr) (cy : Nat), e = .returned (.agg #[.string (l k).name, .slice ay (l k).rows.length cy]) ∧ FrP w'.heap.size w''.heap.size w'' (fun z => Sub z k ay) ∧ Below w'.heap.size w' w'') :
 Calls Tryz.prog 165 #[.slice a n cap, .func (.func G) #[] #[]] w fun e w' => e = .returned (.slice (some ⟨w.heap.size, 0, none⟩) n n) ∧ FrP w.heap.size w'.heap.size w' (fun z => w.heap.size < z.heap.size ∧ ∀ j, j < n → ∃ (ax : Option Addr) (cx : Nat), CellsV z w.heap.size (j * 2) (vIn (l j) ax cx) ∧ Sub z j ax) ∧ Below w.heap.size w w' := by
 have hm' : n ≤ 9223372036854775807 := by unfold maxLen at hm; omega
 obtain ⟨Z, hZ, hmk⟩ := make_In n hby w
 have HST := Lib.hid (Cps.start (K := 2) (V := fun j => vIn (l j)) (Sub := Sub) (n := n) w Z 60 hZ)
 have HSRC := Lib.hid hsrc
 have HSUB := Lib.hid hsub
 have HF := Lib.hid hF
 have HD := Lib.hid hdo
 clear hsrc hsub hF hdo hZ hm hby
 go_enter Tryz.func165, Tryz.ntmps165
 go_wp2_with fail
 clear hmk
 go_loopw [5, 13] (fun fv i wr => ∃ k : Nat, k ≤ n ∧ i = .int .i64 k ∧ fv = .slice (some ⟨w.heap.size, 0, none⟩) k n ∧ Cps 2 (fun j => vIn (l j)) Sub n k w wr) (fun _ i _ => n - (intOf i).toNat)
 case atStart => exact ⟨0, Nat.zero_le _, rfl, rfl, HST.out⟩
 case round =>
  clear HST
  obtain ⟨k, hk, rfl, rfl, hcp⟩ := hrel
  have HC := Lib.hid hcp
  clear hcp
  by_cases hlt : k < n
  ·have hlt' : (k : Int) < (n : Int) := by omega
   obtain ⟨b, off, rfl, hcell⟩ := HSRC.out.resolve_left (by omega)
   obtain ⟨ax, cx, hv, hs⟩ := hcell wr HC.out.bel k hlt
   have x0 := hv 0 _ rfl
   have x1 := hv 1 _ rfl
   rw [Nat.add_zero] at x0
   have hb1 := kbelow_box wr (.cells #[.string (l k).name, .slice ax (l k).rows.length cx] 60)
   have HB1 := Lib.hid hb1
   have HDO := Lib.hid (HD.out k hlt _ ax cx (HC.out.bel.trans (hb1.mono (Nat.le_of_lt HC.out.lt))) (HSUB.out _ _ k ax hb1 hs))
   clear hcell hv hs hb1
   go_wp2_with fail
   rw [HF.out, Oper.upon_enter]
   refine HDO.out.mono ?_
   rintro e w2 ⟨ay, cy, rfl, hfr, hb2⟩
   have hb12 := HB1.out.trans (hb2.mono HB1.out.size)
   have hfree : ∀ i, i < n * 2 → (w2.cell? ⟨w.heap.size, i, none⟩).isSome = true ∧ w2.frozen? ⟨w.heap.size, i, none⟩ = false := fun i hi => by
    obtain ⟨h1, h2⟩ := HC.out.free i hi
    rw [hb12.cell (p := ⟨w.heap.size, i, none⟩) HC.out.lt, World.frozen?_of_block (w := wr) (w' := w2) (a := ⟨w.heap.size, i, none⟩) (hb12.block _ HC.out.lt)]
    exact ⟨h1, h2⟩
   have HAP := Lib.hid (app_In (l k) ay cy w2 55 w.heap.size n k hlt hfree (Nat.lt_of_lt_of_le HC.out.lt hb12.size))
   have hb3 := kbelow_box w2 (.cells #[.string (l k).name, .slice ay (l k).rows.length cy] 60)
   have HCN := Lib.hid (HC.out.step (fun _ _ _ => rfl) hlt (hb12.trans (hb3.mono hb12.size)) ay cy ((hfr.move (Agree.below hb3 (Nat.le_refl _) (Nat.le_refl _))).wide HB1.out.size hb3.size))
   clear hfr hb2 hb12 hfree hb3 x0 x1
   go_wp2_with (first | (at_builtin; refine wpList_run_app _ rfl _ _ _ rfl rfl rfl HAP.out ?_; rintro v' w4 ⟨rfl, rfl⟩))
   go_roundw
   case rel => exact ⟨k + 1, by omega, by go_num, by first | rfl | (simp), HCN.out⟩
   case measure => simp [intOf]; omega
  ·have hkn : k = n := by omega
   subst hkn
   go_wp2_with fail
   go_ret
   exact ⟨rfl, HC.out.done, HC.out.bel⟩
def vSl (r : Sq.Slp.Sl) (a : Option Addr) (c : Nat) : List Value := [.int .i64 r.num, .int .i64 r.per, .int .i64 r.run, .bool r.gone, .slice a r.tot.length c]
theorem info_Sl : (Tryz.prog.info? 84).map (fun i => (i.zero, i.size, i.bytes)) = some (some (.agg #[.int .i64 0, .int .i64 0, .int .i64 0, .bool false, .slice none 0 0]), 5, 56) := by kernel_rfl
theorem make_Sl (n : Nat) (h : n * 56 ≤ 140737488355328) (w : World) : ∃ Z : Array Value, Z.size = n * 5 ∧
 (Instr.makeSlice 30 (.int .i64 0) (.int .i64 (n : Int))).run Tryz.prog w = .ok (.slice (some ⟨w.heap.size, 0, none⟩) 0 n) (w.alloc (.cells Z 84)) := by
 obtain ⟨i0, hi, hz0, hz1, hz2⟩ := info_parts info_Sl
 have h := run_make (P := Tryz.prog) w 30 84 i0 _ Tryz.underlying30 hi hz0 .i64 .i64 0 (n : Int) (by omega) (by omega) (by rw [hz2]; omega) (by omega)
 rw [hz1] at h
 exact ⟨madeCells #[.int .i64 0, .int .i64 0, .int .i64 0, .bool false, .slice none 0 0] (n * 5), size_madeCells _ _, by simpa [Value.cells] using h⟩
theorem app_Sl (r : Sq.Slp.Sl) (a : Option Addr) (c : Nat) (W : World) (ty : TypeId) (g n k : Nat) (hk : k < n) (hf : ∀ i, i < n * 5 → (W.cell? ⟨g, i, none⟩).isSome = true ∧ W.frozen? ⟨g, i, none⟩ = false) (hg : g < W.heap.size) :
 ∃ v' w', (Builtin.append_ #[30, 30] ty #[.slice (some ⟨g, 0, none⟩) k n, .slice (some ⟨W.heap.size, 0, none⟩) 1 1]).run Tryz.prog (W.alloc (.cells #[.int .i64 r.num, .int .i64 r.per, .int .i64 r.run, .bool r.gone, .slice a r.tot.length c] 84)) = .ok v' w' ∧
   (v' = .slice (some ⟨g, 0, none⟩) (k + 1) n ∧ w' = (W.alloc (.cells #[.int .i64 r.num, .int .i64 r.per, .int .i64 r.run, .bool r.gone, .slice a r.tot.length c] 84)).setCells g (k * 5) (vSl r a c)) := by
 obtain ⟨i0, hi, hz0, hz1, hz2⟩ := info_parts info_Sl
 have hkk : (k + 1) * 5 ≤ n * 5 := Nat.mul_le_mul_right 5 hk
 have hb := kbelow_box W (.cells #[.int .i64 r.num, .int .i64 r.per, .int .i64 r.run, .bool r.gone, .slice a r.tot.length c] 84)
 have h := run_append_room_cells (P := Tryz.prog) (W.alloc (.cells #[.int .i64 r.num, .int .i64 r.per, .int .i64 r.run, .bool r.gone, .slice a r.tot.length c] 84)) 30 ty 84 i0 Tryz.underlying30 hi g 0 k n ⟨W.heap.size, 0, none⟩ 1 1 (vSl r a c) (by rw [hz1]; rfl) (fun j u hu => by
  rw [Addr.add_lit, Nat.zero_add, cell_of_row _ _ _ _ _ _ (heap_alloc_new W _), show (#[.int .i64 r.num, .int .i64 r.per, .int .i64 r.run, .bool r.gone, .slice a r.tot.length c] : Array Value) = (vSl r a c).toArray from rfl, List.getElem?_toArray]
  exact hu) (by simp [vSl, Value.oneCell']) (by omega) (fun j hj => by
  rw [hz1, Nat.zero_add, hb.cell (p := ⟨g, k * 5 + j, none⟩) hg]
  exact (hf _ (by have : j < 5 := hj; omega)).1) (fun j hj => by
  rw [hz1, Nat.zero_add, World.frozen?_of_block (w := W) (a := ⟨g, k * 5 + j, none⟩) (hb.block _ hg)]
  exact (hf _ (by have : j < 5 := hj; omega)).2)
 rw [hz1, Nat.zero_add] at h
 exact ⟨_, _, h, rfl, rfl⟩
set_option maxRecDepth 100000 in
set_option maxHeartbeats 2000000 in
theorem copiesSl (G : FuncId) (a : Option Addr) (n cap : Nat) (l : Nat → Sq.Slp.Sl) (Sub : World → Nat → Option Addr → Prop) (w : World) (hm : n ≤ maxLen) (hby : n * 56 ≤ 140737488355328)
 (hsrc : n = 0 ∨ ∃ b off, a = some ⟨b, off, none⟩ ∧ ∀ w', Below w.heap.size w w' → ∀ k, k < n → ∃ (ax : Option Addr) (cx : Nat), CellsV w' b (off + k * 5) (vSl (l k) ax cx) ∧ Sub w' k ax)
 (hsub : ∀ w' w'' k ax, Below w'.heap.size w' w'' → Sub w' k ax → Sub w'' k ax)
 (hF : ∀ v w, (callFunc G #[v]).run Tryz.prog w = .ok (.enter G #[v]) w)
 (hdo : ∀ k, k < n → ∀ w' ax cx, Below w.heap.size w w' → Sub w' k ax → Calls Tryz.prog G #[.agg #[.int .i64 (l k).num, .int .i64 (l k).per, .int .i64 (l k).run, .bool (l k).gone, .slice ax (l k).tot.length cx]] w' fun e w'' => ∃ (ay : Option Addr) (cy : Nat), e = .returned (.agg #[.int .i64 (l k).num, .int .i64 (l k).per, .int .i64 (l k).run, .bool (l k).gone, .slice ay (l k).tot.length cy]) ∧ FrP w'.heap.size w''.heap.size w'' (fun z => Sub z k ay) ∧ Below w'.heap.size w' w'') :
 Calls Tryz.prog 117 #[.slice a n cap, .func (.func G) #[] #[]] w fun e w' => e = .returned (.slice (some ⟨w.heap.size, 0, none⟩) n n) ∧ FrP w.heap.size w'.heap.size w' (fun z => w.heap.size < z.heap.size ∧ ∀ j, j < n → ∃ (ax : Option Addr) (cx : Nat), CellsV z w.heap.size (j * 5) (vSl (l j) ax cx) ∧ Sub z j ax) ∧ Below w.heap.size w w' := by
 have hm' : n ≤ 9223372036854775807 := by unfold maxLen at hm; omega
 obtain ⟨Z, hZ, hmk⟩ := make_Sl n hby w
 have HST := Lib.hid (Cps.start (K := 5) (V := fun j => vSl (l j)) (Sub := Sub) (n := n) w Z 84 hZ)
 have HSRC := Lib.hid hsrc
 have HSUB := Lib.hid hsub
 have HF := Lib.hid hF
 have HD := Lib.hid hdo
 clear hsrc hsub hF hdo hZ hm hby
 go_enter Tryz.func117, Tryz.ntmps117
 go_wp2_with fail
 clear hmk
 go_loopw [5, 13] (fun fv i wr => ∃ k : Nat, k ≤ n ∧ i = .int .i64 k ∧ fv = .slice (some ⟨w.heap.size, 0, none⟩) k n ∧ Cps 5 (fun j => vSl (l j)) Sub n k w wr) (fun _ i _ => n - (intOf i).toNat)
 case atStart => exact ⟨0, Nat.zero_le _, rfl, rfl, HST.out⟩
 case round =>
  clear HST
  obtain ⟨k, hk, rfl, rfl, hcp⟩ := hrel
  have HC := Lib.hid hcp
  clear hcp
  by_cases hlt : k < n
  ·have hlt' : (k : Int) < (n : Int) := by omega
   obtain ⟨b, off, rfl, hcell⟩ := HSRC.out.resolve_left (by omega)
   obtain ⟨ax, cx, hv, hs⟩ := hcell wr HC.out.bel k hlt
   have x0 := hv 0 _ rfl
   have x1 := hv 1 _ rfl
   have x2 := hv 2 _ rfl
   have x3 := hv 3 _ rfl
   have x4 := hv 4 _ rfl
   rw [Nat.add_zero] at x0
   have hb1 := kbelow_box wr (.cells #[.int .i64 (l k).num, .int .i64 (l k).per, .int .i64 (l k).run, .bool (l k).gone, .slice ax (l k).tot.length cx] 84)
   have HB1 := Lib.hid hb1
   have HDO := Lib.hid (HD.out k hlt _ ax cx (HC.out.bel.trans (hb1.mono (Nat.le_of_lt HC.out.lt))) (HSUB.out _ _ k ax hb1 hs))
   clear hcell hv hs hb1
   go_wp2_with fail
   rw [HF.out, Oper.upon_enter]
   refine HDO.out.mono ?_
   rintro e w2 ⟨ay, cy, rfl, hfr, hb2⟩
   have hb12 := HB1.out.trans (hb2.mono HB1.out.size)
   have hfree : ∀ i, i < n * 5 → (w2.cell? ⟨w.heap.size, i, none⟩).isSome = true ∧ w2.frozen? ⟨w.heap.size, i, none⟩ = false := fun i hi => by
    obtain ⟨h1, h2⟩ := HC.out.free i hi
    rw [hb12.cell (p := ⟨w.heap.size, i, none⟩) HC.out.lt, World.frozen?_of_block (w := wr) (w' := w2) (a := ⟨w.heap.size, i, none⟩) (hb12.block _ HC.out.lt)]
    exact ⟨h1, h2⟩
   have HAP := Lib.hid (app_Sl (l k) ay cy w2 30 w.heap.size n k hlt hfree (Nat.lt_of_lt_of_le HC.out.lt hb12.size))
   have hb3 := kbelow_box w2 (.cells #[.int .i64 (l k).num, .int .i64 (l k).per, .int .i64 (l k).run, .bool (l k).gone, .slice ay (l k).tot.length cy] 84)
   have HCN := Lib.hid (HC.out.step (fun _ _ _ => rfl) hlt (hb12.trans (hb3.mono hb12.size)) ay cy ((hfr.move (Agree.below hb3 (Nat.le_refl _) (Nat.le_refl _))).wide HB1.out.size hb3.size))
   clear hfr hb2 hb12 hfree hb3 x0 x1 x2 x3 x4
   go_wp2_with (first | (at_builtin; refine wpList_run_app _ rfl _ _ _ rfl rfl rfl HAP.out ?_; rintro v' w4 ⟨rfl, rfl⟩))
   go_roundw
   case rel => exact ⟨k + 1, by omega, by go_num, by first | rfl | (simp), HCN.out⟩
   case measure => simp [intOf]; omega
  ·have hkn : k = n := by omega
   subst hkn
   go_wp2_with fail
   go_ret
   exact ⟨rfl, HC.out.done, HC.out.bel⟩
def vEn (r : Sq.Ldg.En) (a : Option Addr) (c : Nat) : List Value := [.int .i64 r.day, .slice a r.ps.length c]
theorem info_En : (Tryz.prog.info? 91).map (fun i => (i.zero, i.size, i.bytes)) = some (some (.agg #[.int .i64 0, .slice none 0 0]), 2, 32) := by kernel_rfl
theorem make_En (n : Nat) (h : n * 32 ≤ 140737488355328) (w : World) : ∃ Z : Array Value, Z.size = n * 2 ∧
 (Instr.makeSlice 31 (.int .i64 0) (.int .i64 (n : Int))).run Tryz.prog w = .ok (.slice (some ⟨w.heap.size, 0, none⟩) 0 n) (w.alloc (.cells Z 91)) := by
 obtain ⟨i0, hi, hz0, hz1, hz2⟩ := info_parts info_En
 have h := run_make (P := Tryz.prog) w 31 91 i0 _ Tryz.underlying31 hi hz0 .i64 .i64 0 (n : Int) (by omega) (by omega) (by rw [hz2]; omega) (by omega)
 rw [hz1] at h
 exact ⟨madeCells #[.int .i64 0, .slice none 0 0] (n * 2), size_madeCells _ _, by simpa [Value.cells] using h⟩
theorem app_En (r : Sq.Ldg.En) (a : Option Addr) (c : Nat) (W : World) (ty : TypeId) (g n k : Nat) (hk : k < n) (hf : ∀ i, i < n * 2 → (W.cell? ⟨g, i, none⟩).isSome = true ∧ W.frozen? ⟨g, i, none⟩ = false) (hg : g < W.heap.size) :
 ∃ v' w', (Builtin.append_ #[31, 31] ty #[.slice (some ⟨g, 0, none⟩) k n, .slice (some ⟨W.heap.size, 0, none⟩) 1 1]).run Tryz.prog (W.alloc (.cells #[.int .i64 r.day, .slice a r.ps.length c] 91)) = .ok v' w' ∧
   (v' = .slice (some ⟨g, 0, none⟩) (k + 1) n ∧ w' = (W.alloc (.cells #[.int .i64 r.day, .slice a r.ps.length c] 91)).setCells g (k * 2) (vEn r a c)) := by
 obtain ⟨i0, hi, hz0, hz1, hz2⟩ := info_parts info_En
 have hkk : (k + 1) * 2 ≤ n * 2 := Nat.mul_le_mul_right 2 hk
 have hb := kbelow_box W (.cells #[.int .i64 r.day, .slice a r.ps.length c] 91)
 have h := run_append_room_cells (P := Tryz.prog) (W.alloc (.cells #[.int .i64 r.day, .slice a r.ps.length c] 91)) 31 ty 91 i0 Tryz.underlying31 hi g 0 k n ⟨W.heap.size, 0, none⟩ 1 1 (vEn r a c) (by rw [hz1]; rfl) (fun j u hu => by
  rw [Addr.add_lit, Nat.zero_add, cell_of_row _ _ _ _ _ _ (heap_alloc_new W _), show (#[.int .i64 r.day, .slice a r.ps.length c] : Array Value) = (vEn r a c).toArray from rfl, List.getElem?_toArray]
  exact hu) (by simp [vEn, Value.oneCell']) (by omega) (fun j hj => by
  rw [hz1, Nat.zero_add, hb.cell (p := ⟨g, k * 2 + j, none⟩) hg]
  exact (hf _ (by have : j < 2 := hj; omega)).1) (fun j hj => by
  rw [hz1, Nat.zero_add, World.frozen?_of_block (w := W) (a := ⟨g, k * 2 + j, none⟩) (hb.block _ hg)]
  exact (hf _ (by have : j < 2 := hj; omega)).2)
 rw [hz1, Nat.zero_add] at h
 exact ⟨_, _, h, rfl, rfl⟩
set_option maxRecDepth 100000 in
set_option maxHeartbeats 2000000 in
theorem copiesEn (G : FuncId) (a : Option Addr) (n cap : Nat) (l : Nat → Sq.Ldg.En) (Sub : World → Nat → Option Addr → Prop) (w : World) (hm : n ≤ maxLen) (hby : n * 32 ≤ 140737488355328)
 (hsrc : n = 0 ∨ ∃ b off, a = some ⟨b, off, none⟩ ∧ ∀ w', Below w.heap.size w w' → ∀ k, k < n → ∃ (ax : Option Addr) (cx : Nat), CellsV w' b (off + k * 2) (vEn (l k) ax cx) ∧ Sub w' k ax)
 (hsub : ∀ w' w'' k ax, Below w'.heap.size w' w'' → Sub w' k ax → Sub w'' k ax)
 (hF : ∀ v w, (callFunc G #[v]).run Tryz.prog w = .ok (.enter G #[v]) w)
 (hdo : ∀ k, k < n → ∀ w' ax cx, Below w.heap.size w w' → Sub w' k ax → Calls Tryz.prog G #[.agg #[.int .i64 (l k).day, .slice ax (l k).ps.length cx]] w' fun e w'' => ∃ (ay : Option Addr) (cy : Nat), e = .returned (.agg #[.int .i64 (l k).day, .slice ay (l k).ps.length cy]) ∧ FrP w'.heap.size w''.heap.size w'' (fun z => Sub z k ay) ∧ Below w'.heap.size w' w'') :
 Calls Tryz.prog 119 #[.slice a n cap, .func (.func G) #[] #[]] w fun e w' => e = .returned (.slice (some ⟨w.heap.size, 0, none⟩) n n) ∧ FrP w.heap.size w'.heap.size w' (fun z => w.heap.size < z.heap.size ∧ ∀ j, j < n → ∃ (ax : Option Addr) (cx : Nat), CellsV z w.heap.size (j * 2) (vEn (l j) ax cx) ∧ Sub z j ax) ∧ Below w.heap.size w w' := by
 have hm' : n ≤ 9223372036854775807 := by unfold maxLen at hm; omega
 obtain ⟨Z, hZ, hmk⟩ := make_En n hby w
 have HST := Lib.hid (Cps.start (K := 2) (V := fun j => vEn (l j)) (Sub := Sub) (n := n) w Z 91 hZ)
 have HSRC := Lib.hid hsrc
 have HSUB := Lib.hid hsub
 have HF := Lib.hid hF
 have HD := Lib.hid hdo
 clear hsrc hsub hF hdo hZ hm hby
 go_enter Tryz.func119, Tryz.ntmps119
 go_wp2_with fail
 clear hmk
 go_loopw [5, 13] (fun fv i wr => ∃ k : Nat, k ≤ n ∧ i = .int .i64 k ∧ fv = .slice (some ⟨w.heap.size, 0, none⟩) k n ∧ Cps 2 (fun j => vEn (l j)) Sub n k w wr) (fun _ i _ => n - (intOf i).toNat)
 case atStart => exact ⟨0, Nat.zero_le _, rfl, rfl, HST.out⟩
 case round =>
  clear HST
  obtain ⟨k, hk, rfl, rfl, hcp⟩ := hrel
  have HC := Lib.hid hcp
  clear hcp
  by_cases hlt : k < n
  ·have hlt' : (k : Int) < (n : Int) := by omega
   obtain ⟨b, off, rfl, hcell⟩ := HSRC.out.resolve_left (by omega)
   obtain ⟨ax, cx, hv, hs⟩ := hcell wr HC.out.bel k hlt
   have x0 := hv 0 _ rfl
   have x1 := hv 1 _ rfl
   rw [Nat.add_zero] at x0
   have hb1 := kbelow_box wr (.cells #[.int .i64 (l k).day, .slice ax (l k).ps.length cx] 91)
   have HB1 := Lib.hid hb1
   have HDO := Lib.hid (HD.out k hlt _ ax cx (HC.out.bel.trans (hb1.mono (Nat.le_of_lt HC.out.lt))) (HSUB.out _ _ k ax hb1 hs))
   clear hcell hv hs hb1
   go_wp2_with fail
   rw [HF.out, Oper.upon_enter]
   refine HDO.out.mono ?_
   rintro e w2 ⟨ay, cy, rfl, hfr, hb2⟩
   have hb12 := HB1.out.trans (hb2.mono HB1.out.size)
   have hfree : ∀ i, i < n * 2 → (w2.cell? ⟨w.heap.size, i, none⟩).isSome = true ∧ w2.frozen? ⟨w.heap.size, i, none⟩ = false := fun i hi => by
    obtain ⟨h1, h2⟩ := HC.out.free i hi
    rw [hb12.cell (p := ⟨w.heap.size, i, none⟩) HC.out.lt, World.frozen?_of_block (w := wr) (w' := w2) (a := ⟨w.heap.size, i, none⟩) (hb12.block _ HC.out.lt)]
    exact ⟨h1, h2⟩
   have HAP := Lib.hid (app_En (l k) ay cy w2 31 w.heap.size n k hlt hfree (Nat.lt_of_lt_of_le HC.out.lt hb12.size))
   have hb3 := kbelow_box w2 (.cells #[.int .i64 (l k).day, .slice ay (l k).ps.length cy] 91)
   have HCN := Lib.hid (HC.out.step (fun _ _ _ => rfl) hlt (hb12.trans (hb3.mono hb12.size)) ay cy ((hfr.move (Agree.below hb3 (Nat.le_refl _) (Nat.le_refl _))).wide HB1.out.size hb3.size))
   clear hfr hb2 hb12 hfree hb3 x0 x1
   go_wp2_with (first | (at_builtin; refine wpList_run_app _ rfl _ _ _ rfl rfl rfl HAP.out ?_; rintro v' w4 ⟨rfl, rfl⟩))
   go_roundw
   case rel => exact ⟨k + 1, by omega, by go_num, by first | rfl | (simp), HCN.out⟩
   case measure => simp [intOf]; omega
  ·have hkn : k = n := by omega
   subst hkn
   go_wp2_with fail
   go_ret
   exact ⟨rfl, HC.out.done, HC.out.bel⟩
end Go.Proofs.YtkalfdjmklakdaaGreatDoor
