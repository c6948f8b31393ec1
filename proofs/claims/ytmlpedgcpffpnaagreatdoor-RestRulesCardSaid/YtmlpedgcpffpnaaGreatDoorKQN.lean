/-
  Promise F1: the parser: expressions that are made: how they lie in memory, and what is kept of them.
-/
import Derived.Test.YtmlpedgcpffpnaaGreatDoorKQM
import Derived.Test.YtmlpedgcpffpnaaGreatDoorKZ0
import Derived.Deep.RegionWith
import Derived.Deep.RegionHeld
set_option linter.unusedSimpArgs false
set_option maxRecDepth 100000
set_option maxHeartbeats 8000000
namespace Go.Proofs.YtmlpedgcpffpnaaGreatDoor
open Go.RowKit
def KidsP (w : World) (P : Nat -> Prop) : Ex -> Option Addr -> Prop
 | .no, _ => False
 | .mk _ _ s m kid, a => s.size <= maxLen /\ m <= maxLen /\ (m = 0 \/ ∃ b, a = some ⟨b, 0, none⟩ /\ P b /\ (b < w.heap.size /\ ∀ i, w.frozen? ⟨b, i, none⟩ = false) /\ ∀ j, j < m -> ∃ (aj : Option Addr) (cj : Nat), XCells w b (j * 4) (kid j) aj cj /\ KidsP w P (kid j) aj)
theorem XCells.to {w w' : World} {b o : Nat} {x : Ex} {a : Option Addr} {c : Nat} (h : XCells w b o x a c) (hb : w'.heap[b]? = w.heap[b]?) : XCells w' b o x a c :=
 ⟨(World.cell?_of_block (a := ⟨b, o, none⟩) hb).trans h.1, (World.cell?_of_block (a := ⟨b, o + 1, none⟩) hb).trans h.2.1, (World.cell?_of_block (a := ⟨b, o + 2, none⟩) hb).trans h.2.2.1, (World.cell?_of_block (a := ⟨b, o + 3, none⟩) hb).trans h.2.2.2⟩
theorem KidsP.to {w w' : World} {P Q : Nat -> Prop} (hb : ∀ b, P b -> b < w.heap.size -> w'.heap[b]? = w.heap[b]? /\ Q b) (hs : w.heap.size <= w'.heap.size) : ∀ {x : Ex} {a : Option Addr}, KidsP w P x a -> KidsP w' Q x a := by
 intro x
 induction x with
 | no => intro a h; exact h.elim
 | mk k n s m kid ih =>
   intro a h;obtain ⟨h1, h2, h⟩ := h;refine ⟨h1, h2, ?_⟩
   rcases h with h | ⟨b, rfl, hP, hB, h⟩
   ·exact .inl h
   ·refine .inr ⟨b, rfl, (hb b hP hB.1).2, ⟨Nat.lt_of_lt_of_le hB.1 hs, fun i => (World.frozen?_of_block (a := ⟨b, i, none⟩) (hb b hP hB.1).1).trans (hB.2 i)⟩, fun j hj => ?_⟩;obtain ⟨aj, cj, h1, h2⟩ := h j hj;exact ⟨aj, cj, h1.to (hb b hP hB.1).1, ih j h2⟩
theorem KidsP.kids {w : World} {P : Nat -> Prop} : ∀ {x : Ex} {a : Option Addr}, KidsP w P x a -> KidsAt w x a := by
 intro x
 induction x with
 | no => intro a h; exact h.elim
 | mk k n s m kid ih =>
   intro a h;obtain ⟨h1, h2, h⟩ := h;refine ⟨h1, h2, ?_⟩
   rcases h with h | ⟨b, rfl, hP, hB, h⟩
   ·exact .inl h
   ·refine .inr ⟨b, 0, rfl, hB.1, fun j hj => ?_⟩;obtain ⟨aj, cj, h1, h2⟩ := h j hj;exact ⟨aj, cj, by rw [Nat.zero_add]; exact h1, ih j h2⟩
theorem KidsP.mono {w : World} {P Q : Nat -> Prop} {x : Ex} {a : Option Addr} (h : KidsP w P x a) (hQ : ∀ b, P b -> b < w.heap.size -> Q b) : KidsP w Q x a := h.to (fun b hP hB => ⟨rfl, hQ b hP hB⟩) (Nat.le_refl _)
theorem KidsP.gr {w w' : World} {P : Nat -> Prop} {pb : Nat} {x : Ex} {a : Option Addr} (h : KidsP w P x a) (hg : w.grownBy w' (some pb)) (hP : ∀ b, P b -> pb < b) : KidsP w' P x a :=
 h.to (fun b hb hB => ⟨hg.block b hB fun e => by injection e with e; have := hP b hb; omega, hb⟩) hg.size
theorem KidsP.below {w w' : World} {P : Nat -> Prop} {x : Ex} {a : Option Addr} (h : KidsP w P x a) (hb : Below w.heap.size w w') : KidsP w' P x a := h.to (fun b hP hB => ⟨hb.block b hB, hP⟩) hb.size
theorem KidsP.put {w : World} {P : Nat -> Prop} {c : Nat} {x : Ex} {a : Option Addr} (h : KidsP w P x a) (hc : ∀ b, P b -> b ≠ c) (i : Nat) (us : List Value) : KidsP (putL w c i us) P x a :=
 h.to (fun b hP _ => ⟨putL_block c (hc b hP) us i w, hP⟩) (by rw [putL_size]; exact Nat.le_refl _)
theorem KidsP.leaf (w : World) (P : Nat -> Prop) (k n : Int) (s : ByteArray) (a : Option Addr) (hs : s.size <= maxLen) : KidsP w P (leafX k n s) a := ⟨hs, by unfold maxLen; omega, .inl rfl⟩
def exV (x : Ex) (a : Option Addr) (c : Nat) : Value := .agg #[.int .i64 x.k, .int .i64 x.n, .string x.s, .slice a x.m c]
def exL (x : Ex) (a : Option Addr) (c : Nat) : List Value := [.int .i64 x.k, .int .i64 x.n, .string x.s, .slice a x.m c]
theorem exL_len (x : Ex) (a : Option Addr) (c : Nat) : (exL x a c).length = 4 := rfl
theorem xcells_new (w : World) (T : TypeId) (pre post : List Value) (x : Ex) (a : Option Addr) (c : Nat) {g o : Nat} (hg : g = w.heap.size) (ho : o = pre.length) : XCells (w.alloc (.cells (pre ++ exL x a c ++ post).toArray T)) g o x a c := by
 subst hg ho;refine ⟨?_, ?_, ?_, ?_⟩ <;> simp [exL, List.getElem?_append]
theorem frz_new (w : World) (cs : Array Value) (T : TypeId) (i : Nat) : (w.alloc (.cells cs T)).frozen? ⟨w.heap.size, i, none⟩ = false := by simp
theorem KidsP.one {w : World} {P : Nat -> Prop} {e : Ex} {ae : Option Addr} {ce : Nat} (T : TypeId) (k n : Int) (s : ByteArray) (he : KidsP w P e ae) {g : Nat} (hg : g = w.heap.size) (hP : P w.heap.size) (hs : s.size <= maxLen) :
 KidsP (w.alloc (.cells (exL e ae ce).toArray T)) P (oneX k n s e) (some ⟨g, 0, none⟩) := by
 refine ⟨hs, by unfold maxLen; omega, .inr ⟨g, rfl, by rw [hg]; exact hP, ⟨by simp; omega, fun i => by rw [hg]; exact frz_new w _ _ i⟩, fun j hj => ?_⟩⟩;have hj0 : j = 0 := by omega
 subst hj0;exact ⟨ae, ce, by have := xcells_new w T [] [] e ae ce hg rfl; simpa [exL_len] using this, he.below (kbelow_box _ _)⟩
theorem KidsP.two {w : World} {P : Nat -> Prop} {e f : Ex} {ae af : Option Addr} {ce cf : Nat} (T : TypeId) (k : Int) (he : KidsP w P e ae) (hf : KidsP w P f af) {g : Nat} (hg : g = w.heap.size) (hP : P w.heap.size) :
 KidsP (w.alloc (.cells (exL e ae ce ++ exL f af cf).toArray T)) P (twoX k e f) (some ⟨g, 0, none⟩) := by
 refine ⟨by unfold maxLen noT; exact Nat.zero_le _, by unfold maxLen; omega, .inr ⟨g, rfl, by rw [hg]; exact hP, ⟨by simp; omega, fun i => by rw [hg]; exact frz_new w _ _ i⟩, fun j hj => ?_⟩⟩;have hj0 : j = 0 \/ j = 1 := by omega
 rcases hj0 with rfl | rfl
 ·exact ⟨ae, ce, by have := xcells_new w T [] (exL f af cf) e ae ce hg rfl; simpa [exL_len] using this, he.below (kbelow_box _ _)⟩
 ·exact ⟨af, cf, by have := xcells_new w T (exL e ae ce) [] f af cf hg rfl; simpa [exL_len] using this, hf.below (kbelow_box _ _)⟩
theorem KidsP.four {w : World} {P : Nat -> Prop} {e f e' f' : Ex} {ae af ae' af' : Option Addr} {ce cf ce' cf' : Nat} (T : TypeId) (n : Int) (he : KidsP w P e ae) (hf : KidsP w P f af) (he' : KidsP w P e' ae') (hf' : KidsP w P f' af') {g : Nat} (hg : g = w.heap.size) (hP : P w.heap.size) :
 KidsP (w.alloc (.cells (exL e ae ce ++ exL f af cf ++ exL e' ae' ce' ++ exL f' af' cf').toArray T)) P (fourX n e f e' f') (some ⟨g, 0, none⟩) := by
 refine ⟨by unfold maxLen noT; exact Nat.zero_le _, by unfold maxLen; omega, .inr ⟨g, rfl, by rw [hg]; exact hP, ⟨by simp; omega, fun i => by rw [hg]; exact frz_new w _ _ i⟩, fun j hj => ?_⟩⟩;have hj0 : j = 0 \/ j = 1 \/ j = 2 \/ j = 3 := by omega
 rcases hj0 with rfl | rfl | rfl | rfl
 ·exact ⟨ae, ce, by have := xcells_new w T [] (exL f af cf ++ exL e' ae' ce' ++ exL f' af' cf') e ae ce hg rfl; simpa [exL_len] using this, he.below (kbelow_box _ _)⟩
 ·exact ⟨af, cf, by have := xcells_new w T (exL e ae ce) (exL e' ae' ce' ++ exL f' af' cf') f af cf hg rfl; simpa [exL_len] using this, hf.below (kbelow_box _ _)⟩
 ·exact ⟨ae', ce', by have := xcells_new w T (exL e ae ce ++ exL f af cf) (exL f' af' cf') e' ae' ce' hg rfl; simpa [exL_len] using this, he'.below (kbelow_box _ _)⟩
 ·exact ⟨af', cf', by have := xcells_new w T (exL e ae ce ++ exL f af cf ++ exL e' ae' ce') [] f' af' cf' hg rfl; simpa [exL_len] using this, hf'.below (kbelow_box _ _)⟩
def PRet (w w' : World) (pb g : Nat) (T : List Tk) (e : Ending) : Option (Ex × Nat) -> Prop
 | none => Gave w pb e w'
 | some (x, k') => ∃ a c, e = .returned (exV x a c) /\ KidsP w' (fun b => w.heap.size <= b) x a /\ St w w' pb g T k'
theorem PRet.gone {w w' : World} {pb g : Nat} {T : List Tk} {e : Ending} {R : Option (Ex × Nat)} (hR : R = none) (h : Gave w pb e w') : PRet w w' pb g T e R := by rw [hR]; exact h
theorem PRet.got {w w' : World} {pb g : Nat} {T : List Tk} {e : Ending} {R : Option (Ex × Nat)} {x : Ex} {k : Nat} (hR : R = some (x, k)) (h : ∃ a c, e = .returned (exV x a c) /\ KidsP w' (fun b => w.heap.size <= b) x a /\ St w w' pb g T k) : PRet w w' pb g T e R := by rw [hR]; exact h
theorem PRet.cases {w w' : World} {pb g : Nat} {T : List Tk} {e : Ending} {R : Option (Ex × Nat)} (h : PRet w w' pb g T e R) : (R = none /\ Gave w pb e w') \/ ∃ x k a c, R = some (x, k) /\ e = .returned (exV x a c) /\ KidsP w' (fun b => w.heap.size <= b) x a /\ St w w' pb g T k := by
 cases R with
 | none => exact .inl ⟨rfl, h⟩
 | some xk =>
   obtain ⟨x, k⟩ := xk;obtain ⟨a, c, h1, h2, h3⟩ := h;exact .inr ⟨x, k, a, c, rfl, h1, h2, h3⟩
structure Wk (w wi : World) (pb g : Nat) (T : List Tk) (k : Nat) : Prop where
 st : St w wi pb g T k
 bx : Bxs wi w.heap.size [.int .i64 0, .int .i64 0, .string ⟨#[]⟩, .slice none 0 0]
 sz : w.heap.size < wi.heap.size
 en : PEnv wi pb
theorem Wk.start {w : World} {pb g k : Nat} {T : List Tk} (h : PrA w pb g T k) (hE : PEnv w pb) : Wk w (w.alloc (.cells #[.int .i64 0, .int .i64 0, .string ⟨#[]⟩, .slice none 0 0] 50)) pb g T k :=
 ⟨(St.refl h).below (kbelow_box _ _), Bxs.made w [.int .i64 0, .int .i64 0, .string ⟨#[]⟩, .slice none 0 0] _, by simp, hE.below (kbelow_box _ _)⟩
theorem Wk.step {w wi wj : World} {pb g k j : Nat} {T : List Tk} (h : Wk w wi pb g T k) (hs : St wi wj pb g T j) : Wk w wj pb g T j :=
 ⟨h.st.trans hs, h.bx.st hs h.sz h.st.lo.1, Nat.lt_of_lt_of_le h.sz hs.size, h.en.st hs⟩
theorem Wk.below {w wi wj : World} {pb g k : Nat} {T : List Tk} (h : Wk w wi pb g T k) (hb : Below wi.heap.size wi wj) : Wk w wj pb g T k :=
 ⟨h.st.below hb, h.bx.below hb h.sz, Nat.lt_of_lt_of_le h.sz hb.size, h.en.below hb⟩
theorem Wk.gave {w wi w' : World} {pb g k : Nat} {T : List Tk} {e : Ending} (h : Wk w wi pb g T k) (hg : Gave wi pb e w') : Gave w pb e w' := hg.mono h.st.gr
theorem Wk.done {w wi : World} {pb g k : Nat} {T : List Tk} {x : Ex} {a : Option Addr} {c : Nat} (h : Wk w wi pb g T k) (hk : KidsP wi (fun b => w.heap.size < b) x a) :
 Bxs (putL wi w.heap.size 0 (exL x a c)) w.heap.size (exL x a c) /\ KidsP (putL wi w.heap.size 0 (exL x a c)) (fun b => w.heap.size <= b) x a /\ St w (putL wi w.heap.size 0 (exL x a c)) pb g T k :=
 ⟨h.bx.put (exL x a c) rfl, (hk.put (fun b hb => by omega) 0 _).mono fun b hb _ => Nat.le_of_lt hb, h.st.put (Nat.le_refl _) 0 _⟩
theorem Wk.laid {w wi : World} {pb g k : Nat} {T : List Tk} (h : Wk w wi pb g T k) (us : List Value) (hl : us.length = 4) :
 Bxs (putL wi w.heap.size 0 us) w.heap.size us /\ (putL wi w.heap.size 0 us).heap.size = wi.heap.size /\ St w (putL wi w.heap.size 0 us) pb g T k /\ ∀ x a, KidsP wi (fun b => w.heap.size < b) x a -> KidsP (putL wi w.heap.size 0 us) (fun b => w.heap.size < b) x a :=
 ⟨h.bx.put us hl, putL_size _ us 0 wi, h.st.put (Nat.le_refl _) 0 us, fun _ _ hk => hk.put (fun b hb => by omega) 0 us⟩
theorem made_all {w V : World} {pb g k n : Nat} {T : List Tk} {us : List Value} {x : Ex} {a : Option Addr} {o : Obj} (hB : Bxs V w.heap.size us) (hz : V.heap.size = n) (hw : w.heap.size < n) (hs : St w V pb g T k) (hk : KidsP (V.alloc o) (fun b => w.heap.size < b) x a) :
 Bxs (V.alloc o) w.heap.size us /\ KidsP (V.alloc o) (fun b => w.heap.size <= b) x a /\ St w (V.alloc o) pb g T k :=
 ⟨hB.below (kbelow_box _ _) (by omega), hk.mono fun b hb _ => Nat.le_of_lt hb, hs.below (kbelow_box _ _)⟩
def Laid (w V wn : World) (pb g k : Nat) (T : List Tk) (x : Ex) (a : Option Addr) (c : Nat) : Prop := Bxs wn w.heap.size (exL x a c) /\ KidsP wn (fun b => w.heap.size <= b) x a /\ St w wn pb g T k /\ V.heap.size <= wn.heap.size
theorem Wk.one {w wi : World} {pb g k : Nat} {T : List Tk} {e : Ex} {ae : Option Addr} {ce : Nat} (h : Wk w wi pb g T k) (he : KidsP wi (fun b => w.heap.size < b) e ae) (U : TypeId) (kk n : Int) (s : ByteArray) (hs : s.size <= maxLen) (cc : Nat) {V : World} (hV : putL wi w.heap.size 0 (exL (oneX kk n s e) (some ⟨wi.heap.size, 0, none⟩) cc) = V) :
 Laid w wi (V.alloc (.cells (exL e ae ce).toArray U)) pb g k T (oneX kk n s e) (some ⟨wi.heap.size, 0, none⟩) cc := by
 obtain ⟨h1, h2, h3, h4⟩ := h.laid (exL (oneX kk n s e) (some ⟨wi.heap.size, 0, none⟩) cc) rfl;rw [hV] at h1 h2 h3 h4;obtain ⟨a1, a2, a3⟩ := made_all h1 h2 h.sz h3 (KidsP.one (ce := ce) U kk n s (h4 e ae he) (g := wi.heap.size) h2.symm (by rw [h2]; exact h.sz) hs);exact ⟨a1, a2, a3, by simp; omega⟩
theorem Wk.two {w wi : World} {pb g k : Nat} {T : List Tk} {e f : Ex} {ae af : Option Addr} {ce cf : Nat} (h : Wk w wi pb g T k) (he : KidsP wi (fun b => w.heap.size < b) e ae) (hf : KidsP wi (fun b => w.heap.size < b) f af) (U : TypeId) (kk : Int) (cc : Nat) {V : World} (hV : putL wi w.heap.size 0 (exL (twoX kk e f) (some ⟨wi.heap.size, 0, none⟩) cc) = V) :
 Laid w wi (V.alloc (.cells (exL e ae ce ++ exL f af cf).toArray U)) pb g k T (twoX kk e f) (some ⟨wi.heap.size, 0, none⟩) cc := by
 obtain ⟨h1, h2, h3, h4⟩ := h.laid (exL (twoX kk e f) (some ⟨wi.heap.size, 0, none⟩) cc) rfl;rw [hV] at h1 h2 h3 h4;obtain ⟨a1, a2, a3⟩ := made_all h1 h2 h.sz h3 (KidsP.two (ce := ce) (cf := cf) U kk (h4 e ae he) (h4 f af hf) (g := wi.heap.size) h2.symm (by rw [h2]; exact h.sz));exact ⟨a1, a2, a3, by simp; omega⟩
theorem Wk.four {w wi : World} {pb g k : Nat} {T : List Tk} {e f e' f' : Ex} {ae af ae' af' : Option Addr} {ce cf ce' cf' : Nat} (h : Wk w wi pb g T k) (he : KidsP wi (fun b => w.heap.size < b) e ae) (hf : KidsP wi (fun b => w.heap.size < b) f af) (he' : KidsP wi (fun b => w.heap.size < b) e' ae') (hf' : KidsP wi (fun b => w.heap.size < b) f' af') (U : TypeId) (n : Int) (cc : Nat) {V : World} (hV : putL wi w.heap.size 0 (exL (fourX n e f e' f') (some ⟨wi.heap.size, 0, none⟩) cc) = V) :
 Laid w wi (V.alloc (.cells (exL e ae ce ++ exL f af cf ++ exL e' ae' ce' ++ exL f' af' cf').toArray U)) pb g k T (fourX n e f e' f') (some ⟨wi.heap.size, 0, none⟩) cc := by
 obtain ⟨h1, h2, h3, h4⟩ := h.laid (exL (fourX n e f e' f') (some ⟨wi.heap.size, 0, none⟩) cc) rfl;rw [hV] at h1 h2 h3 h4;obtain ⟨a1, a2, a3⟩ := made_all h1 h2 h.sz h3 (KidsP.four (ce := ce) (cf := cf) (ce' := ce') (cf' := cf') U n (h4 e ae he) (h4 f af hf) (h4 e' ae' he') (h4 f' af' hf') (g := wi.heap.size) h2.symm (by rw [h2]; exact h.sz));exact ⟨a1, a2, a3, by simp; omega⟩
structure Loc (w wi : World) (b : Nat) (x : Ex) (a : Option Addr) (c : Nat) : Prop where
 bx : Bxs wi b (exL x a c)
 lt : b < wi.heap.size
 gt : w.heap.size < b
 ks : KidsP wi (fun q => w.heap.size < q) x a
theorem Loc.made {w wi : World} {pb g k : Nat} {T : List Tk} {x : Ex} {a : Option Addr} {c : Nat} (h : Wk w wi pb g T k) (hk : KidsP wi (fun q => w.heap.size < q) x a) : Loc w (wi.alloc (.cells #[.int .i64 x.k, .int .i64 x.n, .string x.s, .slice a x.m c] 50)) wi.heap.size x a c :=
 ⟨Bxs.made wi (exL x a c) _, by simp, h.sz, hk.below (kbelow_box _ _)⟩
theorem Loc.step {w wi wj : World} {pb g k b : Nat} {T : List Tk} {x : Ex} {a : Option Addr} {c : Nat} (h : Loc w wi b x a c) (hs : St wi wj pb g T k) (hp : pb < w.heap.size) : Loc w wj b x a c :=
 ⟨h.bx.st hs h.lt (by have := h.gt; omega), Nat.lt_of_lt_of_le h.lt hs.size, h.gt, h.ks.gr hs.gr fun b hb => by omega⟩
theorem Loc.below {w wi wj : World} {b : Nat} {x : Ex} {a : Option Addr} {c : Nat} (h : Loc w wi b x a c) (hb : Below wi.heap.size wi wj) : Loc w wj b x a c :=
 ⟨h.bx.below hb h.lt, Nat.lt_of_lt_of_le h.lt hb.size, h.gt, h.ks.below hb⟩
theorem Wk.box {w wi : World} {pb g k : Nat} {T : List Tk} (h : Wk w wi pb g T k) (o : Obj) : Wk w (wi.alloc o) pb g T k := h.below (kbelow_box _ _)
def ConE (T : List Tk) (pb g f : Nat) : Prop := ∀ k w, PEnv w pb -> PrA w pb g T k -> 8 * (T.length - k) + 7 <= f -> Calls Tryz.prog 128 #[.pointer (some ⟨pb, 0, none⟩)] w fun e w' => PRet w w' pb g T e (prs T f .ex k)
def ConS (T : List Tk) (pb g f : Nat) : Prop := ∀ k w, PEnv w pb -> PrA w pb g T k -> 8 * (T.length - k) + 6 <= f -> Calls Tryz.prog 164 #[.pointer (some ⟨pb, 0, none⟩)] w fun e w' => PRet w w' pb g T e (prs T f .su k)
def ConP (T : List Tk) (pb g f : Nat) : Prop := ∀ k w, PEnv w pb -> PrA w pb g T k -> 8 * (T.length - k) + 5 <= f -> Calls Tryz.prog 184 #[.pointer (some ⟨pb, 0, none⟩)] w fun e w' => PRet w w' pb g T e (prs T f .pr k)
def ConA (T : List Tk) (pb g f : Nat) : Prop := ∀ k w, PEnv w pb -> PrA w pb g T k -> 8 * (T.length - k) + 4 <= f -> Calls Tryz.prog 199 #[.pointer (some ⟨pb, 0, none⟩)] w fun e w' => PRet w w' pb g T e (prs T f .pa k)
theorem inBr_any {T : List Tk} {pb g f : Nat} (hT : TokOk T) (hC : ConE T pb g f) {w : World} {k : Nat} (hE : PEnv w pb) (h : PrA w pb g T k) (hf : 8 * (T.length - k) <= f) :
 Calls Tryz.prog 216 #[.pointer (some ⟨pb, 0, none⟩)] w fun e w' => PRet w w' pb g T e (if isT T k [40] then (prs T f .ex (k + 1)).bind fun a => if isT T a.2 [41] then some (a.1, a.2 + 1) else none else none) := by
 generalize hR : (if isT T k [40] then (prs T f .ex (k + 1)).bind fun a => if isT T a.2 [41] then some (a.1, a.2 + 1) else none else none) = R;have HR := Hd hR;clear hR;have HW0 := Hd (Wk.start h hE);have HC := Hd hC;have HT := Hd hT;have hkl := h.2;clear h hE hC hT
 by_cases c : isT T k [40] = true
 ·have HX := Hd (expect_yes HT.out HW0.out.st.pr c (by simp));have HQ := Hd c;clear c
  go_enter Tryz.func216, Tryz.ntmps216
  go_wp2_with fail
  refine HX.out.mono ?_;rintro e w1 ⟨rfl, hs⟩;have HW1 := Hd (HW0.out.step hs);clear hs;have HCC := Hd (HC.out (k + 1) w1 HW1.out.en HW1.out.st.pr (by have := HW1.out.st.pr.2; omega));clear HX
  cases hr : prs T f .ex (k + 1) with
  | none =>
    rw [hr] at HCC;have HN : Hid (R = none) := by unfold Hid; rw [<- HR.out, if_pos HQ.out, hr]; rfl
    clear hr;go_wp2_with fail
    refine HCC.out.mono ?_;rintro e w2 ⟨⟨er, at', h0, rfl⟩, hg⟩;have HG := Hd (And.intro h0 hg);clear h0 hg;go_wp2_with fail
    exact ⟨rfl, PRet.gone HN.out (HW1.out.gave ⟨⟨er, at', HG.out.1, rfl⟩, HG.out.2⟩)⟩
  | some xk =>
    obtain ⟨x, k1⟩ := xk;rw [hr] at HCC;have HRR := Hd hr;clear hr;go_wp2_with fail
    refine HCC.out.mono ?_;rintro e w2 ⟨a, c, rfl, hk, hs⟩;have HK2 := Hd hk;have HW2 := Hd (HW1.out.step hs);clear hs;clear hk HCC;have hBb := kbelow_box w2 (.cells #[.int .i64 x.k, .int .i64 x.n, .string x.s, .slice a x.m c] 50);have HW3 := Hd (HW2.out.below hBb);have HK3 := Hd (HK2.out.below hBb);have HX3 := Hd (Bxs.made w2 (exL x a c) 50);clear hBb;unfold exL at HX3
    by_cases c2 : isT T k1 [41] = true
    ·have HN : Hid (R = some (x, k1 + 1)) := by unfold Hid; rw [<- HR.out, if_pos HQ.out, HRR.out, Option.bind_some, if_pos c2]
     have HX := Hd (expect_yes HT.out HW3.out.st.pr c2 (by simp));unfold exV;go_wp2_with fail
     refine HX.out.mono ?_;rintro e w4 ⟨rfl, hs⟩;have hl3 : w2.heap.size < (w2.alloc (.cells #[.int .i64 x.k, .int .i64 x.n, .string x.s, .slice a x.m c] 50)).heap.size := by simp
     have hpl := HW2.out.st.lo;have hpz := HW2.out.sz;have hX4 := HX3.out.st hs hl3 (by omega);have HK4 := Hd (HK3.out.gr hs.gr fun b hb => by have := HW1.out.sz; omega);have HW4 := Hd (HW3.out.step hs);clear hs;obtain ⟨⟨x0, x1, x2, x3⟩, -⟩ := hX4.four;obtain ⟨⟨r0, r1, r2, r3⟩, z0, z1, z2, z3⟩ := HW4.out.bx.four;have hne : w.heap.size < w2.heap.size := hpz;clear hX4 HX hl3 hpl hpz;go_wp2_with fail
     have hD := HW4.out.done (c := c) (HK4.out.mono fun b hb _ => by have := HW1.out.sz; omega);refine bodyPost_ret (v := exV x a c) ?_ rfl (PRet.got HN.out ⟨a, c, rfl, hD.2.1, hD.2.2⟩);obtain ⟨⟨e0, e1, e2, e3⟩, -⟩ := hD.1.four;simp only [exL, putL, Nat.zero_add, Nat.reduceAdd] at e0 e1 e2 e3;simp [results, Tryz.results216, go_sem, e0, e1, e2, e3, exV]
    ·have HN : Hid (R = none) := by unfold Hid; rw [<- HR.out, if_pos HQ.out, HRR.out, Option.bind_some, if_neg c2]
     have HX := Hd (expect_no HW3.out.st.pr (l := [41]) (by simpa using c2));unfold exV;go_wp2_with fail
     refine HX.out.mono ?_;rintro e w4 ⟨⟨er, at', h0, rfl⟩, hg⟩;have HG := Hd (And.intro h0 hg);clear h0 hg;go_wp2_with fail
     exact ⟨rfl, PRet.gone HN.out (HW3.out.gave ⟨⟨er, at', HG.out.1, rfl⟩, HG.out.2⟩)⟩
 ·have HN : Hid (R = none) := by unfold Hid; rw [<- HR.out, if_neg c]
  have HX := Hd (expect_no HW0.out.st.pr (l := [40]) (by simpa using c));clear c
  go_enter Tryz.func216, Tryz.ntmps216
  go_wp2_with fail
  refine HX.out.mono ?_;rintro e w1 ⟨⟨er, at', h0, rfl⟩, hg⟩;have HG := Hd (And.intro h0 hg);clear h0 hg;go_wp2_with fail
  exact ⟨rfl, PRet.gone HN.out (HW0.out.gave ⟨⟨er, at', HG.out.1, rfl⟩, HG.out.2⟩)⟩
theorem table_any {T : List Tk} {pb g f : Nat} (hT : TokOk T) (hC : ConA T pb g f) {w : World} {k : Nat} (hE : PEnv w pb) (h : PrA w pb g T k) (hf : 8 * (T.length - k) <= f) (ht : isT T k [116, 97, 98, 108, 101] = true) :
 Calls Tryz.prog 214 #[.pointer (some ⟨pb, 0, none⟩)] w fun e w' => PRet w w' pb g T e ((namT T (k + 1)).bind fun s => if isT T (k + 2) [111, 102] then (prs T f .pa (k + 3)).bind fun a => some (oneX 5 0 s a.1, a.2) else none) := by
 generalize hR : ((namT T (k + 1)).bind fun s => if isT T (k + 2) [111, 102] then (prs T f .pa (k + 3)).bind fun a => some (oneX 5 0 s a.1, a.2) else none) = R;have HR := Hd hR;clear hR;have HW0 := Hd (Wk.start h hE);have HC := Hd hC;have HT := Hd hT;have hkl := h.2;have HX := Hd (expect_yes HT.out HW0.out.st.pr ht (by simp));clear h hE hC hT ht
 go_enter Tryz.func214, Tryz.ntmps214
 go_wp2_with fail
 refine HX.out.mono ?_;rintro e w1 ⟨rfl, hs⟩;have HW1 := Hd (HW0.out.step hs);clear hs;clear HX;go_wp2_with fail
 cases hn : namT T (k + 1) with
 | none =>
   have HN : Hid (R = none) := by unfold Hid; rw [<- HR.out, hn]; rfl
   refine (name_no HW1.out.st.pr hn).mono ?_;rintro e w2 ⟨⟨er, at', h0, rfl⟩, hg⟩;have HG := Hd (And.intro h0 hg);clear h0 hg;go_wp2_with fail
   exact ⟨rfl, PRet.gone HN.out (HW1.out.gave ⟨⟨er, at', HG.out.1, rfl⟩, HG.out.2⟩)⟩
 | some s =>
   have hss : s.size <= maxLen := by
    have := (namT_bd HT.out HW1.out.st.pr.2 hn).2.2.1;unfold maxLen;omega
   have HSS := Hd hss;refine (name_yes HT.out HW1.out.st.pr hn).mono ?_;rintro e w2 ⟨rfl, hs⟩;have HW2 := Hd (HW1.out.step hs);clear hs;have HRN := Hd hn;clear hn hss
   by_cases c2 : isT T (k + 2) [111, 102] = true
   ·have HX := Hd (expect_yes HT.out HW2.out.st.pr c2 (by simp));have HQ := Hd c2;clear c2;go_wp2_with fail
    refine HX.out.mono ?_;rintro e w3 ⟨rfl, hs⟩;have HW3 := Hd (HW2.out.step hs);clear hs;have HCC := Hd (HC.out (k + 3) w3 HW3.out.en HW3.out.st.pr (by have := HW3.out.st.pr.2; omega));clear HX
    cases hr : prs T f .pa (k + 3) with
    | none =>
      rw [hr] at HCC;have HN : Hid (R = none) := by unfold Hid; rw [<- HR.out, HRN.out, Option.bind_some, if_pos HQ.out, hr]; rfl
      clear hr;go_wp2_with fail
      refine HCC.out.mono ?_;rintro e w4 ⟨⟨er, at', h0, rfl⟩, hg⟩;have HG := Hd (And.intro h0 hg);clear h0 hg;go_wp2_with fail
      exact ⟨rfl, PRet.gone HN.out (HW3.out.gave ⟨⟨er, at', HG.out.1, rfl⟩, HG.out.2⟩)⟩
    | some xk =>
      obtain ⟨x, k1⟩ := xk;rw [hr] at HCC;have HN : Hid (R = some (oneX 5 0 s x, k1)) := by unfold Hid; rw [<- HR.out, HRN.out, Option.bind_some, if_pos HQ.out, hr]; rfl
      clear hr;go_wp2_with fail
      refine HCC.out.mono ?_;rintro e w4 ⟨a, c, rfl, hk, hs⟩;have HK4 : Hid (KidsP w4 (fun b => w.heap.size < b) x a) := hk.mono fun b hb _ => by have := HW3.out.sz; omega
      have HW4 := Hd (HW3.out.step hs);clear hs;clear hk HCC;obtain ⟨⟨r0, r1, r2, r3⟩, z0, z1, z2, z3⟩ := HW4.out.bx.four;have hne := HW4.out.sz;unfold exV;go_wp2_with fail
      have hD := HW4.out.one (ce := c) HK4.out 50 5 0 s HSS.out 1 rfl;refine bodyPost_ret (v := exV (oneX 5 0 s x) (some ⟨w4.heap.size, 0, none⟩) 1) ?_ rfl ?_
      rotate_left
      ·exact PRet.got HN.out ⟨some ⟨w4.heap.size, 0, none⟩, 1, rfl, hD.2.1, hD.2.2.1⟩
      obtain ⟨⟨e0, e1, e2, e3⟩, -⟩ := hD.1.four;simp only [exL, putL, Nat.zero_add, Nat.reduceAdd, oneX, Ex.k, Ex.n, Ex.s, Ex.m] at e0 e1 e2 e3;simp [results, Tryz.results214, go_sem, e0, e1, e2, e3, exV, oneX, Ex.k, Ex.n, Ex.s, Ex.m]
   ·have HN : Hid (R = none) := by unfold Hid; rw [<- HR.out, HRN.out, Option.bind_some, if_neg c2]
    have HX := Hd (expect_no HW2.out.st.pr (l := [111, 102]) (by simpa using c2));clear c2;go_wp2_with fail
    refine HX.out.mono ?_;rintro e w3 ⟨⟨er, at', h0, rfl⟩, hg⟩;have HG := Hd (And.intro h0 hg);clear h0 hg;go_wp2_with fail
    exact ⟨rfl, PRet.gone HN.out (HW2.out.gave ⟨⟨er, at', HG.out.1, rfl⟩, HG.out.2⟩)⟩
theorem both_any {T : List Tk} {pb g f : Nat} (kk : Int) (hT : TokOk T) (hC : ConE T pb g f) {w : World} {k : Nat} (hE : PEnv w pb) (h : PrA w pb g T k) (hf : 8 * (T.length - k) <= f) (hk2 : k + 1 < T.length) :
 Calls Tryz.prog 215 #[.pointer (some ⟨pb, 0, none⟩), .int .i64 kk] w fun e w' => PRet w w' pb g T e (if isT T (k + 1) [40] then (prs T f .ex (k + 2)).bind fun a => if isT T a.2 [44] then (prs T f .ex (a.2 + 1)).bind fun b => if isT T b.2 [41] then some (twoX kk a.1 b.1, b.2 + 1) else none else none else none) := by
 generalize hR : (if isT T (k + 1) [40] then (prs T f .ex (k + 2)).bind fun a => if isT T a.2 [44] then (prs T f .ex (a.2 + 1)).bind fun b => if isT T b.2 [41] then some (twoX kk a.1 b.1, b.2 + 1) else none else none else none) = R;have HR := Hd hR;clear hR;have HW0 := Hd (Wk.start h hE);have HC := Hd hC;have HT := Hd hT;have HX := Hd (nextA HW0.out.st.pr hk2);have hpl : pb < w.heap.size := h.lt;clear h hE hC hT
 go_enter Tryz.func215, Tryz.ntmps215
 go_wp2_with fail
 refine HX.out.mono ?_;rintro e w1 ⟨rfl, hs⟩;have HW1 := Hd (HW0.out.step hs);clear hs;clear HX
 by_cases c1 : isT T (k + 1) [40] = true
 ·have HX := Hd (expect_yes HT.out HW1.out.st.pr c1 (by simp));have HQ1 := Hd c1;clear c1;go_wp2_with fail
  refine HX.out.mono ?_;rintro e w2 ⟨rfl, hs⟩;have HW2 := Hd (HW1.out.step hs);clear hs;have HCC := Hd (HC.out (k + 2) w2 HW2.out.en HW2.out.st.pr (by have := HW2.out.st.pr.2; omega));clear HX
  cases hr : prs T f .ex (k + 2) with
  | none =>
    rw [hr] at HCC;have HN : Hid (R = none) := by unfold Hid; rw [<- HR.out, if_pos HQ1.out, hr]; rfl
    clear hr;go_wp2_with fail
    refine HCC.out.mono ?_;rintro e w3 ⟨⟨er, at', h0, rfl⟩, hg⟩;have HG := Hd (And.intro h0 hg);clear h0 hg;go_wp2_with fail
    exact ⟨rfl, PRet.gone HN.out (HW2.out.gave ⟨⟨er, at', HG.out.1, rfl⟩, HG.out.2⟩)⟩
  | some xk =>
    obtain ⟨xl, k1⟩ := xk;have hlow := (prs_ok HT.out _ _ _ _ _ rfl HW2.out.st.pr.2 hr).low;simp only [lowL] at hlow;rw [hr] at HCC;have HRA := Hd hr;clear hr;go_wp2_with fail
    refine HCC.out.mono ?_;rintro e w3 ⟨al, cl, rfl, hk, hs⟩;have HKl : Hid (KidsP w3 (fun b => w.heap.size < b) xl al) := hk.mono fun b hb _ => by have := HW2.out.sz; omega
    have HV3 := Hd (HW2.out.step hs);have HW3 := Hd (HV3.out.box (.cells #[.int .i64 xl.k, .int .i64 xl.n, .string xl.s, .slice al xl.m cl] 50));have HLl := Hd (Loc.made (c := cl) HV3.out HKl.out);clear hs hk HCC
    by_cases c2 : isT T k1 [44] = true
    ·have HX := Hd (expect_yes HT.out HW3.out.st.pr c2 (by simp));have HQ2 := Hd c2;clear c2;unfold exV;go_wp2_with fail
     refine HX.out.mono ?_;rintro e w4 ⟨rfl, hs⟩;have HL4 := Hd (HLl.out.step hs hpl);have HW4 := Hd (HW3.out.step hs);clear hs;have HCC := Hd (HC.out (k1 + 1) w4 HW4.out.en HW4.out.st.pr (by have := HW4.out.st.pr.2; omega));clear HX
     cases hr : prs T f .ex (k1 + 1) with
     | none =>
       rw [hr] at HCC;have HN : Hid (R = none) := by unfold Hid; rw [<- HR.out, if_pos HQ1.out, HRA.out, Option.bind_some, if_pos HQ2.out, hr]; rfl
       clear hr;go_wp2_with fail
       refine HCC.out.mono ?_;rintro e w5 ⟨⟨er, at', h0, rfl⟩, hg⟩;have HG := Hd (And.intro h0 hg);clear h0 hg;go_wp2_with fail
       exact ⟨rfl, PRet.gone HN.out (HW4.out.gave ⟨⟨er, at', HG.out.1, rfl⟩, HG.out.2⟩)⟩
     | some xk =>
       obtain ⟨xr, k2⟩ := xk;rw [hr] at HCC;have HRB := Hd hr;clear hr;go_wp2_with fail
       refine HCC.out.mono ?_;rintro e w5 ⟨ar, cr, rfl, hk, hs⟩;have HKr : Hid (KidsP w5 (fun b => w.heap.size < b) xr ar) := hk.mono fun b hb _ => by have := HW4.out.sz; omega
       have HV5 := Hd (HW4.out.step hs);have HW5 := Hd (HV5.out.box (.cells #[.int .i64 xr.k, .int .i64 xr.n, .string xr.s, .slice ar xr.m cr] 50));have HLr := Hd (Loc.made (c := cr) HV5.out HKr.out);have HL5 := Hd ((HL4.out.step hs hpl).below (kbelow_box _ (.cells #[.int .i64 xr.k, .int .i64 xr.n, .string xr.s, .slice ar xr.m cr] 50)));clear hs hk HCC
       by_cases c3 : isT T k2 [41] = true
       ·have HN : Hid (R = some (twoX kk xl xr, k2 + 1)) := by unfold Hid; rw [<- HR.out, if_pos HQ1.out, HRA.out, Option.bind_some, if_pos HQ2.out, HRB.out, Option.bind_some, if_pos c3]
        have HX := Hd (expect_yes HT.out HW5.out.st.pr c3 (by simp));clear c3;unfold exV;go_wp2_with fail
        refine HX.out.mono ?_;rintro e w6 ⟨rfl, hs⟩;have HL6 := Hd (HL5.out.step hs hpl);have HM6 := Hd (HLr.out.step hs hpl);have HW6 := Hd (HW5.out.step hs);clear hs;obtain ⟨⟨r0, r1, r2, r3⟩, z0, z1, z2, z3⟩ := HW6.out.bx.four;obtain ⟨⟨p0, p1, p2, p3⟩, -⟩ := HL6.out.bx.four;obtain ⟨⟨q0, q1, q2, q3⟩, -⟩ := HM6.out.bx.four;have hne := HW6.out.sz;go_wp2_with fail
        have hD := HW6.out.two (ce := cl) (cf := cr) HL6.out.ks HM6.out.ks 50 kk 2 rfl;refine bodyPost_ret (v := exV (twoX kk xl xr) (some ⟨w6.heap.size, 0, none⟩) 2) ?_ rfl ?_
        rotate_left
        ·exact PRet.got HN.out ⟨some ⟨w6.heap.size, 0, none⟩, 2, rfl, hD.2.1, hD.2.2.1⟩
        obtain ⟨⟨e0, e1, e2, e3⟩, -⟩ := hD.1.four;simp only [exL, putL, Nat.zero_add, Nat.reduceAdd, twoX, noT, Ex.k, Ex.n, Ex.s, Ex.m, List.cons_append, List.nil_append] at e0 e1 e2 e3;simp [results, Tryz.results215, go_sem, e0, e1, e2, e3, exV, twoX, noT, Ex.k, Ex.n, Ex.s, Ex.m]
       ·have HN : Hid (R = none) := by unfold Hid; rw [<- HR.out, if_pos HQ1.out, HRA.out, Option.bind_some, if_pos HQ2.out, HRB.out, Option.bind_some, if_neg c3]
        have HX := Hd (expect_no HW5.out.st.pr (l := [41]) (by simpa using c3));clear c3;unfold exV;go_wp2_with fail
        refine HX.out.mono ?_;rintro e w6 ⟨⟨er, at', h0, rfl⟩, hg⟩;have HG := Hd (And.intro h0 hg);clear h0 hg;go_wp2_with fail
        exact ⟨rfl, PRet.gone HN.out (HW5.out.gave ⟨⟨er, at', HG.out.1, rfl⟩, HG.out.2⟩)⟩
    ·have HN : Hid (R = none) := by unfold Hid; rw [<- HR.out, if_pos HQ1.out, HRA.out, Option.bind_some, if_neg c2]
     have HX := Hd (expect_no HW3.out.st.pr (l := [44]) (by simpa using c2));clear c2;unfold exV;go_wp2_with fail
     refine HX.out.mono ?_;rintro e w4 ⟨⟨er, at', h0, rfl⟩, hg⟩;have HG := Hd (And.intro h0 hg);clear h0 hg;go_wp2_with fail
     exact ⟨rfl, PRet.gone HN.out (HW3.out.gave ⟨⟨er, at', HG.out.1, rfl⟩, HG.out.2⟩)⟩
 ·have HN : Hid (R = none) := by unfold Hid; rw [<- HR.out, if_neg c1]
  have HX := Hd (expect_no HW1.out.st.pr (l := [40]) (by simpa using c1));clear c1;go_wp2_with fail
  refine HX.out.mono ?_;rintro e w2 ⟨⟨er, at', h0, rfl⟩, hg⟩;have HG := Hd (And.intro h0 hg);clear h0 hg;go_wp2_with fail
  exact ⟨rfl, PRet.gone HN.out (HW1.out.gave ⟨⟨er, at', HG.out.1, rfl⟩, HG.out.2⟩)⟩
theorem Wk.drew {w wi : World} {pb g k : Nat} {T : List Tk} (h : Wk w wi pb g T k) : Wk w wi.drew pb g T k := h.below ((Below.refl _ _).drew)
theorem number_one {T : List Tk} {pb g f : Nat} (hT : TokOk T) (hC : ConA T pb g f) {w : World} {k : Nat} (hE : PEnv w pb) (h : PrA w pb g T k) (hf : 8 * (T.length - k) <= f) (h2 : kdT T k = 2) :
 Calls Tryz.prog 213 #[.pointer (some ⟨pb, 0, none⟩)] w fun e w' => PRet w w' pb g T e (if isT T (k + 1) [37] then if 1000000 < nmT T k then none else if isT T (k + 2) [111, 102] then (prs T f .pa (k + 3)).bind fun a => some (oneX 4 (nmT T k) noT a.1, a.2) else none else some (leafX 1 (nmT T k) noT, k + 1)) := by
 generalize hR : (if isT T (k + 1) [37] then if 1000000 < nmT T k then none else if isT T (k + 2) [111, 102] then (prs T f .pa (k + 3)).bind fun a => some (oneX 4 (nmT T k) noT a.1, a.2) else none else some (leafX 1 (nmT T k) noT, k + 1)) = R;have HW0 := Hd (Wk.start h hE);have HC := Hd hC;have HT := Hd hT;have HX := Hd (nextA HW0.out.st.pr (hT.kind h.2 h2 (by decide)));have hpl : pb < w.heap.size := h.lt;unfold nmT at hR;obtain ⟨r, hr⟩ : ∃ r, tkth T k = r := ⟨_, rfl⟩;rw [hr] at hR HX;obtain ⟨rk, rt, rn, rp, ro⟩ := r
 dsimp only at hR
 have HR := Hd hR;clear h hE hC hT h2 hR hr
 go_enter Tryz.func213, Tryz.ntmps213
 go_wp2_with fail
 refine HX.out.mono ?_;rintro e w1 ⟨rfl, hs⟩;have HV1 := Hd (HW0.out.step hs);have HW1 := Hd (HV1.out.box (.cells #[.int .i64 rk, .string rt, .int .i64 rn, .bool rp, .int .i64 ro] 94));have HB1 := Hd (Bxs.made w1 (tqL ⟨rk, rt, rn, rp, ro⟩) 94);have hl1 : w1.heap.size < (w1.alloc (.cells #[.int .i64 rk, .string rt, .int .i64 rn, .bool rp, .int .i64 ro] 94)).heap.size := by simp
 have hg1 : w.heap.size < w1.heap.size := HV1.out.sz;unfold tqL at HB1;clear hs HX;unfold tqV
 by_cases c1 : isT T (k + 1) [37] = true
 ·have HX := Hd (accept_yes HT.out HW1.out.st.pr c1 (by simp));have HQ1 := Hd c1;clear c1;go_wp2_with fail
  refine HX.out.mono ?_;rintro e w2 ⟨rfl, hs⟩;have HB2 := Hd (HB1.out.st hs hl1 (by omega));have hl2 : w1.heap.size < w2.heap.size := Nat.lt_of_lt_of_le hl1 hs.size;have HW2 := Hd (HW1.out.step hs);clear hs;clear HX HB1 hl1;obtain ⟨⟨t0, t1, t2, t3, t4⟩, -⟩ := HB2.out.five
  by_cases c2 : 1000000 < rn
  ·have HN : Hid (R = none) := by unfold Hid; rw [<- HR.out, if_pos HQ1.out, if_pos c2]
   go_wp2_with fail
   refine (rgive_any 3 ro w2).mono ?_;rintro e w3 ⟨rfl, hw⟩;subst w3;go_wp2_with fail
   exact ⟨rfl, PRet.gone HN.out ⟨⟨3, ro, by decide, rfl⟩, HW2.out.st.gr⟩⟩
  ·have c2B : decide (1000000 < rn) = false := dEf c2;have HC2 := Hd c2;clear c2
   by_cases c3 : isT T (k + 2) [111, 102] = true
   ·have HX := Hd (expect_yes HT.out HW2.out.st.pr c3 (by simp));have HQ3 := Hd c3;clear c3;go_wp2_with fail
    refine HX.out.mono ?_;rintro e w3 ⟨rfl, hs⟩;have HB3 := Hd (HB2.out.st hs hl2 (by omega));have hl3 : w1.heap.size < w3.heap.size := Nat.lt_of_lt_of_le hl2 hs.size;have HW3 := Hd (HW2.out.step hs);clear hs;clear HX HB2 hl2 t0 t1 t2 t3 t4;obtain ⟨⟨t0, t1, t2, t3, t4⟩, -⟩ := HB3.out.five;have HD3 := Hd HW3.out.drew;have HBD : Hid (Bxs w3.drew w1.heap.size [.int .i64 rk, .string rt, .int .i64 rn, .bool rp, .int .i64 ro]) := HB3.out.to rfl;have hld : w1.heap.size < w3.drew.heap.size := hl3;have hgn : w.heap.size ≠ w1.heap.size := Nat.ne_of_lt hg1;have hgm : w1.heap.size ≠ w.heap.size := Ne.symm hgn;have HCC := Hd (HC.out (k + 3) w3.drew HD3.out.en HD3.out.st.pr (by have := HW3.out.st.pr.2; omega));have HN0 : Hid (prs T f .pa (k + 3) = none -> R = none) := fun hn => by rw [<- HR.out, if_pos HQ1.out, if_neg (by have := HC2.out; omega), if_pos HQ3.out, hn]; rfl
    have HN1 : Hid (∀ x k1, prs T f .pa (k + 3) = some (x, k1) -> R = some (oneX 4 rn noT x, k1)) := fun x k1 hn => by rw [<- HR.out, if_pos HQ1.out, if_neg (by have := HC2.out; omega), if_pos HQ3.out, hn]; rfl
    generalize prs T f .pa (k + 3) = o at *;go_wp2_with fail
    go_region_held (fun w' => w'.cell? ⟨w1.heap.size, 2, none⟩ = some (.int .i64 rn)) (go_keep)
     (first
      | (go_at_call 199; refine HCC.out.mono ?_; intro e w4 hp
         rcases hp.cases with ⟨hn, ⟨er, at', h0, rfl⟩, hg⟩ | ⟨x, k1, a, c, hn, rfl, hk, hs⟩
         ·exact ⟨rfl, PRet.gone (HN0.out hn) (HD3.out.gave ⟨⟨er, at', h0, rfl⟩, hg⟩)⟩
         have HK4 : Hid (KidsP w4 (fun b => w.heap.size < b) x a) := hk.mono (fun b hb _ => by have := HD3.out.sz; omega);have HB4 := Hd (HBD.out.st hs hld (by omega));have HW4 := Hd (HD3.out.step hs);have HN := Hd (HN1.out x k1 hn);have hl4 : w1.heap.size < w4.heap.size := Nat.lt_of_lt_of_le hld hs.size;have hl5 : w1.heap.size ≠ w4.heap.size := Nat.ne_of_lt hl4;obtain ⟨⟨r0, r1, r2, r3⟩, z0, z1, z2, z3⟩ := HW4.out.bx.four;have hne := HW4.out.sz;obtain ⟨⟨y0, y1, y2, y3, y4⟩, -⟩ := HB4.out.five;clear hk hs HCC hp hn;unfold exV))
    go_wp2_with fail
    have hD := HW4.out.one (ce := c) HK4.out 50 4 rn noT (by unfold noT maxLen; exact Nat.zero_le _) 1 rfl;refine bodyPost_ret (v := exV (oneX 4 rn noT x) (some ⟨w4.heap.size, 0, none⟩) 1) ?_ rfl ?_
    rotate_left
    ·exact PRet.got HN.out ⟨some ⟨w4.heap.size, 0, none⟩, 1, rfl, hD.2.1, hD.2.2.1⟩
    obtain ⟨⟨e0, e1, e2, e3⟩, -⟩ := hD.1.four;simp only [exL, putL, Nat.zero_add, Nat.reduceAdd, oneX, noT, Ex.k, Ex.n, Ex.s, Ex.m] at e0 e1 e2 e3;simp [results, Tryz.results213, go_sem, e0, e1, e2, e3, exV, oneX, noT, Ex.k, Ex.n, Ex.s, Ex.m]
   ·have HN : Hid (R = none) := by unfold Hid; rw [<- HR.out, if_pos HQ1.out, if_neg (by have := HC2.out; omega), if_neg c3]
    have HX := Hd (expect_no HW2.out.st.pr (l := [111, 102]) (by simpa using c3));clear c3;go_wp2_with fail
    refine HX.out.mono ?_;rintro e w3 ⟨⟨er, at', h0, rfl⟩, hg⟩;have HG := Hd (And.intro h0 hg);clear h0 hg;go_wp2_with fail
    exact ⟨rfl, PRet.gone HN.out (HW2.out.gave ⟨⟨er, at', HG.out.1, rfl⟩, HG.out.2⟩)⟩
 ·have HN : Hid (R = some (leafX 1 rn noT, k + 1)) := by unfold Hid; rw [<- HR.out, if_neg c1]
  have HX := Hd (accept_no HW1.out.st.pr (l := [37]) (by simpa using c1));clear c1;go_wp2_with fail
  refine HX.out.mono ?_;rintro e w2 ⟨rfl, hs⟩;have HB2 := Hd (HB1.out.st hs hl1 (by omega));have HW2 := Hd (HW1.out.step hs);clear hs;obtain ⟨⟨t0, t1, t2, t3, t4⟩, -⟩ := HB2.out.five;obtain ⟨⟨r0, r1, r2, r3⟩, z0, z1, z2, z3⟩ := HW2.out.bx.four;go_wp2_with fail
  have hD := HW2.out.done (c := 0) (KidsP.leaf w2 _ 1 rn noT none (by unfold noT maxLen; exact Nat.zero_le _));refine bodyPost_ret (v := exV (leafX 1 rn noT) none 0) ?_ rfl ?_
  rotate_left
  ·exact PRet.got HN.out ⟨none, 0, rfl, hD.2.1, hD.2.2⟩
  obtain ⟨⟨e0, e1, e2, e3⟩, -⟩ := hD.1.four;simp only [exL, putL, Nat.zero_add, Nat.reduceAdd, leafX, noT, Ex.k, Ex.n, Ex.s, Ex.m] at e0 e1 e2 e3;simp [results, Tryz.results213, go_sem, e0, e1, e2, e3, exV, leafX, noT, Ex.k, Ex.n, Ex.s, Ex.m]
theorem isT_list {T : List Tk} {k : Nat} {l : List UInt8} {b : Bool} (h : isT T k l = b) : ((tkth T k).txt.toList == l) = b := by
 rw [<- h];unfold isT;rw [ByteArray.toList_eq]
theorem isT_false {T : List Tk} {k : Nat} {l : List UInt8} (h : ¬ isT T k l = true) : isT T k l = false := by simpa using h
theorem prs_pa (T : List Tk) (f k : Nat) : prs T (f + 1) .pa k =
 if kdT T k = 2 then if isT T (k + 1) [37] then if 1000000 < nmT T k then none else if isT T (k + 2) [111, 102] then (prs T f .pa (k + 3)).bind fun a => some (oneX 4 (nmT T k) noT a.1, a.2) else none else some (leafX 1 (nmT T k) noT, k + 1)
 else if kdT T k = 1 then some (leafX 2 0 (tkth T k).txt, k + 1)
 else if isT T k [121, 101, 97, 114] then (namT T (k + 1)).bind fun s => some (leafX 3 0 s, k + 2)
 else if isT T k [116, 97, 98, 108, 101] then (namT T (k + 1)).bind fun s => if isT T (k + 2) [111, 102] then (prs T f .pa (k + 3)).bind fun a => some (oneX 5 0 s a.1, a.2) else none
 else if isT T k [45] then (prs T f .pa (k + 1)).bind fun a => some (oneX 6 0 noT a.1, a.2)
 else if isT T k [109, 105, 110] then if isT T (k + 1) [40] then (prs T f .ex (k + 2)).bind fun a => if isT T a.2 [44] then (prs T f .ex (a.2 + 1)).bind fun b => if isT T b.2 [41] then some (twoX 11 a.1 b.1, b.2 + 1) else none else none else none
 else if isT T k [109, 97, 120] then if isT T (k + 1) [40] then (prs T f .ex (k + 2)).bind fun a => if isT T a.2 [44] then (prs T f .ex (a.2 + 1)).bind fun b => if isT T b.2 [41] then some (twoX 12 a.1 b.1, b.2 + 1) else none else none else none
 else if isT T k [40] then (prs T f .ex (k + 1)).bind fun a => if isT T a.2 [41] then some (a.1, a.2 + 1) else none
 else none := by rw [prs]
theorem ppart_any {T : List Tk} {pb g f : Nat} (hT : TokOk T) (hC : ConA T pb g f) (hCE : ConE T pb g f) : ConA T pb g (f + 1) := by
 intro k w hE h hf;have hR := prs_pa T f k;generalize prs T (f + 1) .pa k = R at hR ⊢;have HW0 := Hd (Wk.start h hE);have HC := Hd hC;have HCE := Hd hCE;have HT := Hd hT;have hkl := h.2;have HPK := Hd (peekA HW0.out.st.pr);have hpl : pb < w.heap.size := h.lt;have HKD : Hid (kdT T k = (tkth T k).k) := rfl;have HTL := Hd (fun l b (h : isT T k l = b) => isT_list h);have HSZ := Hd (hT.size k hkl);have HR := Hd hR;obtain ⟨r, hr⟩ : ∃ r, tkth T k = r := ⟨_, rfl⟩;rw [hr] at HR HPK HKD HTL HSZ;obtain ⟨rk, rt, rn, rp, ro⟩ := r
 dsimp only at HR HKD HTL HSZ
 have HTK := Hd hr;clear h hE hC hT hR hr hCE
 go_enter Tryz.func199, Tryz.ntmps199
 go_wp2_with fail
 refine HPK.out.mono ?_;rintro e w1 ⟨rfl, hb⟩;have HV1 := Hd (HW0.out.below hb);have HW1 := Hd (HV1.out.box (.cells #[.int .i64 rk, .string rt, .int .i64 rn, .bool rp, .int .i64 ro] 94));have HB1 := Hd (Bxs.made w1 (tqL ⟨rk, rt, rn, rp, ro⟩) 94);have hg1 : w.heap.size < w1.heap.size := HV1.out.sz;have hgn : w.heap.size ≠ w1.heap.size := Nat.ne_of_lt hg1;unfold tqL at HB1;clear hb HPK;unfold tqV
 by_cases q1 : kdT T k = 2
 ·have HXR := Hd (HR.out.trans (if_pos q1));have hk2 : (rk == 2) = true := by rw [HKD.out] at q1; simp [q1]
  have HCC := Hd (number_one HT.out HC.out HW1.out.en HW1.out.st.pr (by omega) q1);clear HR;generalize hX : (if isT T (k + 1) [37] then if 1000000 < nmT T k then none else if isT T (k + 2) [111, 102] then (prs T f .pa (k + 3)).bind fun a => some (oneX 4 (nmT T k) noT a.1, a.2) else none else some (leafX 1 (nmT T k) noT, k + 1)) = X at HCC HXR;clear hX;go_wp2_with fail
  refine HCC.out.mono ?_;intro e w2 hp;clear HCC
  rcases hp.cases with ⟨hn, ⟨er, at', h0, rfl⟩, hg⟩ | ⟨x, k1, a, c, hn, rfl, hk, hs⟩
  ·have HN : Hid (R = none) := HXR.out.trans hn;have HG := Hd (And.intro h0 hg);clear h0 hg hn hp;go_wp2_with fail
   exact ⟨rfl, PRet.gone HN.out (HW1.out.gave ⟨⟨er, at', HG.out.1, rfl⟩, HG.out.2⟩)⟩
  ·have HN : Hid (R = some (x, k1)) := HXR.out.trans hn;have HK2 : Hid (KidsP w2 (fun b => w.heap.size < b) x a) := hk.mono fun b hb _ => by have := HW1.out.sz; omega
   have HW2 := Hd (HW1.out.step hs);clear hs;clear hk hn hp;obtain ⟨⟨r0, r1, r2, r3⟩, z0, z1, z2, z3⟩ := HW2.out.bx.four;unfold exV;go_wp2_with fail
   have hD := HW2.out.done (c := c) HK2.out;refine bodyPost_ret (v := exV x a c) ?_ rfl ?_
   rotate_left
   ·exact PRet.got HN.out ⟨a, c, rfl, hD.2.1, hD.2.2⟩
   obtain ⟨⟨e0, e1, e2, e3⟩, -⟩ := hD.1.four;simp only [exL, putL, Nat.zero_add, Nat.reduceAdd] at e0 e1 e2 e3;simp [results, Tryz.results199, go_sem, e0, e1, e2, e3, exV]
 have HR1 := Hd (HR.out.trans (if_neg q1));clear HR;have hk2 : (rk == 2) = false := by rw [HKD.out] at q1; simp [q1]
 clear q1
 by_cases q2 : kdT T k = 1
 ·have HN := Hd (HR1.out.trans (if_pos q2));have HNM : Hid (namT T k = some rt) := by unfold Hid namT; rw [if_pos q2, HTK.out]
  have HSS : Hid (rt.size <= maxLen) := by have := HSZ.out; unfold Hid maxLen; omega
  have hk1 : (rk == 1) = true := by rw [HKD.out] at q2; simp [q2]
  clear HR1;go_wp2_with fail
  refine (name_yes HT.out HW1.out.st.pr HNM.out).mono ?_;rintro e w2 ⟨rfl, hs⟩;have HW2 := Hd (HW1.out.step hs);clear hs;obtain ⟨⟨r0, r1, r2, r3⟩, z0, z1, z2, z3⟩ := HW2.out.bx.four;go_wp2_with fail
  have hD := HW2.out.done (c := 0) (KidsP.leaf w2 _ 2 0 rt none HSS.out);refine bodyPost_ret (v := exV (leafX 2 0 rt) none 0) ?_ rfl ?_
  rotate_left
  ·exact PRet.got HN.out ⟨none, 0, rfl, hD.2.1, hD.2.2⟩
  obtain ⟨⟨e0, e1, e2, e3⟩, -⟩ := hD.1.four;simp only [exL, putL, Nat.zero_add, Nat.reduceAdd, leafX, Ex.k, Ex.n, Ex.s, Ex.m] at e0 e1 e2 e3;simp [results, Tryz.results199, go_sem, e0, e1, e2, e3, exV, leafX, Ex.k, Ex.n, Ex.s, Ex.m]
 have HR2 := Hd (HR1.out.trans (if_neg q2));clear HR1;have hk1 : (rk == 1) = false := by rw [HKD.out] at q2; simp [q2]
 clear q2
 by_cases q3 : isT T k [121, 101, 97, 114] = true
 ·have HR := Hd (HR2.out.trans (if_pos q3));have hd := HTL.out _ _ q3;have HK1 := Hd (HT.out.text hkl q3 (by simp));clear HR2;go_wp2_with fail
  refine (nextA HW1.out.st.pr HK1.out).mono ?_;rintro e w2 ⟨rfl, hs⟩;have HW2 := Hd (HW1.out.step hs);clear hs
  cases hn : namT T (k + 1) with
  | none =>
    have HN : Hid (R = none) := by unfold Hid; rw [HR.out, hn]; rfl
    go_wp2_with fail
    refine (name_no HW2.out.st.pr hn).mono ?_;rintro e w3 ⟨⟨er, at', h0, rfl⟩, hg⟩;have HG := Hd (And.intro h0 hg);clear h0 hg;go_wp2_with fail
    exact ⟨rfl, PRet.gone HN.out (HW2.out.gave ⟨⟨er, at', HG.out.1, rfl⟩, HG.out.2⟩)⟩
  | some s =>
    have HN : Hid (R = some (leafX 3 0 s, k + 2)) := by unfold Hid; rw [HR.out, hn]; rfl
    have HSS : Hid (s.size <= maxLen) := by
     have := (namT_bd HT.out HW2.out.st.pr.2 hn).2.2.1;unfold Hid maxLen;omega
    go_wp2_with fail
    refine (name_yes HT.out HW2.out.st.pr hn).mono ?_;rintro e w3 ⟨rfl, hs⟩;have HW3 := Hd (HW2.out.step hs);clear hs;obtain ⟨⟨r0, r1, r2, r3⟩, z0, z1, z2, z3⟩ := HW3.out.bx.four;go_wp2_with fail
    have hD := HW3.out.done (c := 0) (KidsP.leaf w3 _ 3 0 s none HSS.out);refine bodyPost_ret (v := exV (leafX 3 0 s) none 0) ?_ rfl ?_
    rotate_left
    ·exact PRet.got HN.out ⟨none, 0, rfl, hD.2.1, hD.2.2⟩
    obtain ⟨⟨e0, e1, e2, e3⟩, -⟩ := hD.1.four;simp only [exL, putL, Nat.zero_add, Nat.reduceAdd, leafX, Ex.k, Ex.n, Ex.s, Ex.m] at e0 e1 e2 e3;simp [results, Tryz.results199, go_sem, e0, e1, e2, e3, exV, leafX, Ex.k, Ex.n, Ex.s, Ex.m]
 have HR3 := Hd (HR2.out.trans (if_neg q3));clear HR2;have d3 := HTL.out _ _ (isT_false q3);clear q3
 by_cases q4 : isT T k [116, 97, 98, 108, 101] = true
 ·have HXR := Hd (HR3.out.trans (if_pos q4));have hd := HTL.out _ _ q4;have HR := HR3;clear HR3;have HCC := Hd (table_any HT.out HC.out HW1.out.en HW1.out.st.pr (by omega) q4);clear HR;generalize hX : ((namT T (k + 1)).bind fun s => if isT T (k + 2) [111, 102] then (prs T f .pa (k + 3)).bind fun a => some (oneX 5 0 s a.1, a.2) else none) = X at HCC HXR;clear hX;go_wp2_with fail
  refine HCC.out.mono ?_;intro e w2 hp;clear HCC
  rcases hp.cases with ⟨hn, ⟨er, at', h0, rfl⟩, hg⟩ | ⟨x, k1, a, c, hn, rfl, hk, hs⟩
  ·have HN : Hid (R = none) := HXR.out.trans hn;have HG := Hd (And.intro h0 hg);clear h0 hg hn hp;go_wp2_with fail
   exact ⟨rfl, PRet.gone HN.out (HW1.out.gave ⟨⟨er, at', HG.out.1, rfl⟩, HG.out.2⟩)⟩
  ·have HN : Hid (R = some (x, k1)) := HXR.out.trans hn;have HK2 : Hid (KidsP w2 (fun b => w.heap.size < b) x a) := hk.mono fun b hb _ => by have := HW1.out.sz; omega
   have HW2 := Hd (HW1.out.step hs);clear hs;clear hk hn hp;obtain ⟨⟨r0, r1, r2, r3⟩, z0, z1, z2, z3⟩ := HW2.out.bx.four;unfold exV;go_wp2_with fail
   have hD := HW2.out.done (c := c) HK2.out;refine bodyPost_ret (v := exV x a c) ?_ rfl ?_
   rotate_left
   ·exact PRet.got HN.out ⟨a, c, rfl, hD.2.1, hD.2.2⟩
   obtain ⟨⟨e0, e1, e2, e3⟩, -⟩ := hD.1.four;simp only [exL, putL, Nat.zero_add, Nat.reduceAdd] at e0 e1 e2 e3;simp [results, Tryz.results199, go_sem, e0, e1, e2, e3, exV]
 have HR4 := Hd (HR3.out.trans (if_neg q4));clear HR3;have d4 := HTL.out _ _ (isT_false q4);clear q4
 by_cases q5 : isT T k [45] = true
 ·have HR := Hd (HR4.out.trans (if_pos q5));have hd := HTL.out _ _ q5;have HK1 := Hd (HT.out.text hkl q5 (by simp));clear HR4;go_wp2_with fail
  refine (nextA HW1.out.st.pr HK1.out).mono ?_;rintro e w2 ⟨rfl, hs⟩;have HW2 := Hd (HW1.out.step hs);clear hs;have HCC := Hd (HC.out (k + 1) w2 HW2.out.en HW2.out.st.pr (by have := HW2.out.st.pr.2; omega))
  cases hr : prs T f .pa (k + 1) with
  | none =>
    rw [hr] at HCC;have HN : Hid (R = none) := by unfold Hid; rw [HR.out, hr]; rfl
    clear hr;go_wp2_with fail
    refine HCC.out.mono ?_;rintro e w3 ⟨⟨er, at', h0, rfl⟩, hg⟩;have HG := Hd (And.intro h0 hg);clear h0 hg;go_wp2_with fail
    exact ⟨rfl, PRet.gone HN.out (HW2.out.gave ⟨⟨er, at', HG.out.1, rfl⟩, HG.out.2⟩)⟩
  | some xk =>
    obtain ⟨x, k1⟩ := xk;rw [hr] at HCC;have HN : Hid (R = some (oneX 6 0 noT x, k1)) := by unfold Hid; rw [HR.out, hr]; rfl
    clear hr;go_wp2_with fail
    refine HCC.out.mono ?_;rintro e w4 ⟨a, c, rfl, hk, hs⟩;have HK4 : Hid (KidsP w4 (fun b => w.heap.size < b) x a) := hk.mono fun b hb _ => by have := HW2.out.sz; omega
    have HW4 := Hd (HW2.out.step hs);clear hs;clear hk HCC;obtain ⟨⟨r0, r1, r2, r3⟩, z0, z1, z2, z3⟩ := HW4.out.bx.four;have hne := HW4.out.sz;unfold exV;go_wp2_with fail
    have hD := HW4.out.one (ce := c) HK4.out 50 6 0 noT (by unfold noT maxLen; exact Nat.zero_le _) 1 rfl;refine bodyPost_ret (v := exV (oneX 6 0 noT x) (some ⟨w4.heap.size, 0, none⟩) 1) ?_ rfl ?_
    rotate_left
    ·exact PRet.got HN.out ⟨some ⟨w4.heap.size, 0, none⟩, 1, rfl, hD.2.1, hD.2.2.1⟩
    obtain ⟨⟨e0, e1, e2, e3⟩, -⟩ := hD.1.four;simp only [exL, putL, Nat.zero_add, Nat.reduceAdd, oneX, noT, Ex.k, Ex.n, Ex.s, Ex.m] at e0 e1 e2 e3;simp [results, Tryz.results199, go_sem, e0, e1, e2, e3, exV, oneX, noT, Ex.k, Ex.n, Ex.s, Ex.m]
 have HR5 := Hd (HR4.out.trans (if_neg q5));clear HR4;have d5 := HTL.out _ _ (isT_false q5);clear q5
 by_cases q6 : isT T k [109, 105, 110] = true
 ·have HXR := Hd (HR5.out.trans (if_pos q6));have hd := HTL.out _ _ q6;have HR := HR5;clear HR5;have HCC := Hd (both_any 11 HT.out HCE.out HW1.out.en HW1.out.st.pr (by omega) (HT.out.text hkl q6 (by simp)));clear HR;generalize hX : (if isT T (k + 1) [40] then (prs T f .ex (k + 2)).bind fun a => if isT T a.2 [44] then (prs T f .ex (a.2 + 1)).bind fun b => if isT T b.2 [41] then some (twoX 11 a.1 b.1, b.2 + 1) else none else none else none) = X at HCC HXR;clear hX;go_wp2_with fail
  refine HCC.out.mono ?_;intro e w2 hp;clear HCC
  rcases hp.cases with ⟨hn, ⟨er, at', h0, rfl⟩, hg⟩ | ⟨x, k1, a, c, hn, rfl, hk, hs⟩
  ·have HN : Hid (R = none) := HXR.out.trans hn;have HG := Hd (And.intro h0 hg);clear h0 hg hn hp;go_wp2_with fail
   exact ⟨rfl, PRet.gone HN.out (HW1.out.gave ⟨⟨er, at', HG.out.1, rfl⟩, HG.out.2⟩)⟩
  ·have HN : Hid (R = some (x, k1)) := HXR.out.trans hn;have HK2 : Hid (KidsP w2 (fun b => w.heap.size < b) x a) := hk.mono fun b hb _ => by have := HW1.out.sz; omega
   have HW2 := Hd (HW1.out.step hs);clear hs;clear hk hn hp;obtain ⟨⟨r0, r1, r2, r3⟩, z0, z1, z2, z3⟩ := HW2.out.bx.four;unfold exV;go_wp2_with fail
   have hD := HW2.out.done (c := c) HK2.out;refine bodyPost_ret (v := exV x a c) ?_ rfl ?_
   rotate_left
   ·exact PRet.got HN.out ⟨a, c, rfl, hD.2.1, hD.2.2⟩
   obtain ⟨⟨e0, e1, e2, e3⟩, -⟩ := hD.1.four;simp only [exL, putL, Nat.zero_add, Nat.reduceAdd] at e0 e1 e2 e3;simp [results, Tryz.results199, go_sem, e0, e1, e2, e3, exV]
 have HR6 := Hd (HR5.out.trans (if_neg q6));clear HR5;have d6 := HTL.out _ _ (isT_false q6);clear q6
 by_cases q7 : isT T k [109, 97, 120] = true
 ·have HXR := Hd (HR6.out.trans (if_pos q7));have hd := HTL.out _ _ q7;have HR := HR6;clear HR6;have HCC := Hd (both_any 12 HT.out HCE.out HW1.out.en HW1.out.st.pr (by omega) (HT.out.text hkl q7 (by simp)));clear HR;generalize hX : (if isT T (k + 1) [40] then (prs T f .ex (k + 2)).bind fun a => if isT T a.2 [44] then (prs T f .ex (a.2 + 1)).bind fun b => if isT T b.2 [41] then some (twoX 12 a.1 b.1, b.2 + 1) else none else none else none) = X at HCC HXR;clear hX;go_wp2_with fail
  refine HCC.out.mono ?_;intro e w2 hp;clear HCC
  rcases hp.cases with ⟨hn, ⟨er, at', h0, rfl⟩, hg⟩ | ⟨x, k1, a, c, hn, rfl, hk, hs⟩
  ·have HN : Hid (R = none) := HXR.out.trans hn;have HG := Hd (And.intro h0 hg);clear h0 hg hn hp;go_wp2_with fail
   exact ⟨rfl, PRet.gone HN.out (HW1.out.gave ⟨⟨er, at', HG.out.1, rfl⟩, HG.out.2⟩)⟩
  ·have HN : Hid (R = some (x, k1)) := HXR.out.trans hn;have HK2 : Hid (KidsP w2 (fun b => w.heap.size < b) x a) := hk.mono fun b hb _ => by have := HW1.out.sz; omega
   have HW2 := Hd (HW1.out.step hs);clear hs;clear hk hn hp;obtain ⟨⟨r0, r1, r2, r3⟩, z0, z1, z2, z3⟩ := HW2.out.bx.four;unfold exV;go_wp2_with fail
   have hD := HW2.out.done (c := c) HK2.out;refine bodyPost_ret (v := exV x a c) ?_ rfl ?_
   rotate_left
   ·exact PRet.got HN.out ⟨a, c, rfl, hD.2.1, hD.2.2⟩
   obtain ⟨⟨e0, e1, e2, e3⟩, -⟩ := hD.1.four;simp only [exL, putL, Nat.zero_add, Nat.reduceAdd] at e0 e1 e2 e3;simp [results, Tryz.results199, go_sem, e0, e1, e2, e3, exV]
 have HXR := Hd (HR6.out.trans (if_neg q7));have HR := HR6;clear HR6;have d7 := HTL.out _ _ (isT_false q7);clear q7;have HCC := Hd (inBr_any HT.out HCE.out HW1.out.en HW1.out.st.pr (by omega));clear HR;generalize hX : (if isT T k [40] then (prs T f .ex (k + 1)).bind fun a => if isT T a.2 [41] then some (a.1, a.2 + 1) else none else none) = X at HCC HXR;clear hX;go_wp2_with fail
 refine HCC.out.mono ?_;intro e w2 hp;clear HCC
 rcases hp.cases with ⟨hn, ⟨er, at', h0, rfl⟩, hg⟩ | ⟨x, k1, a, c, hn, rfl, hk, hs⟩
 ·have HN : Hid (R = none) := HXR.out.trans hn;have HG := Hd (And.intro h0 hg);clear h0 hg hn hp;go_wp2_with fail
  exact ⟨rfl, PRet.gone HN.out (HW1.out.gave ⟨⟨er, at', HG.out.1, rfl⟩, HG.out.2⟩)⟩
 ·have HN : Hid (R = some (x, k1)) := HXR.out.trans hn;have HK2 : Hid (KidsP w2 (fun b => w.heap.size < b) x a) := hk.mono fun b hb _ => by have := HW1.out.sz; omega
  have HW2 := Hd (HW1.out.step hs);clear hs;clear hk hn hp;obtain ⟨⟨r0, r1, r2, r3⟩, z0, z1, z2, z3⟩ := HW2.out.bx.four;unfold exV;go_wp2_with fail
  have hD := HW2.out.done (c := c) HK2.out;refine bodyPost_ret (v := exV x a c) ?_ rfl ?_
  rotate_left
  ·exact PRet.got HN.out ⟨a, c, rfl, hD.2.1, hD.2.2⟩
  obtain ⟨⟨e0, e1, e2, e3⟩, -⟩ := hD.1.four;simp only [exL, putL, Nat.zero_add, Nat.reduceAdd] at e0 e1 e2 e3;simp [results, Tryz.results199, go_sem, e0, e1, e2, e3, exV]
end Go.Proofs.YtmlpedgcpffpnaaGreatDoor
