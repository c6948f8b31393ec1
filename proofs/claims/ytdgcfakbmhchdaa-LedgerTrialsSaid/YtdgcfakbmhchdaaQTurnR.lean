/-
  Promise Q2: the walk of the reference's TurnOf.
-/
import Derived.Test.YtdgcfakbmhchdaaQTurn
import Derived.Deep.Heap
namespace Go.Proofs.Ytdgcfakbmhchdaa
open Go.RowKit

theorem step_run {ops : Array Oper} {o : Oper} {a : Act} {K : Act → World → Prop} {Q : Exit → Act → World → Prop} {E : Prop} (w : World) (hgd : o.guard = none) (s x : Operand) (t : TypeId)
    (ho : o.op = .call { callee := .builtin .append, args := #[s, x], argTypes := #[t, t] }) {v u v9 : Value} {w9 : World} (hs : a.eval s = v) (hx : a.eval x = u)
    (hrun : (Builtin.append_ #[t, t] o.type #[v, u]).run Try.prog w = .ok v9 w9) (h : K (a.put o.dst v9) w9) :
    if Region.wanted o (yielded ops a.tmps) = true then Oper.wp Try.prog o a w K Q else E := by
  have hw : Region.wanted o (yielded ops a.tmps) = true := by simp [Region.wanted, hgd]
  rw [if_pos hw]
  unfold Oper.wp execOp
  simp only [ho, resolve, invoke, builtin, Sem.run_bind, Sem.run_pure, Result.andThen_ok, List.map_toArray, List.map_cons, List.map_nil, hs, hx, hrun]
  exact h
/-- A box of two cells. -/
def Bx (w : World) (O : Nat) (u v : Value) : Prop := w.cell? ⟨O, 0, none⟩ = some u ∧ w.cell? ⟨O, 1, none⟩ = some v ∧ w.frozen? ⟨O, 0, none⟩ = false ∧ w.frozen? ⟨O, 1, none⟩ = false
theorem Bx.made (w : World) (u v : Value) (t : TypeId) : Bx (w.alloc (.cells #[u, v] t)) w.heap.size u v :=
  ⟨World.cell?_alloc_at (w := w) _ _ _ _ rfl, World.cell?_alloc_at (w := w) _ _ _ _ rfl, by rw [World.frozen?_alloc_at (w := w) _ _ _ _ rfl], by rw [World.frozen?_alloc_at (w := w) _ _ _ _ rfl]⟩
theorem Bx.below {w w' : World} {O n : Nat} {u v : Value} (h : Bx w O u v) (hb : Go.RowKit.Below n w w') (hO : O < n) : Bx w' O u v := by
  have e := hb.block O hO
  refine ⟨(hb.cell (p := ⟨O, 0, none⟩) hO).trans h.1, (hb.cell (p := ⟨O, 1, none⟩) hO).trans h.2.1, ?_, ?_⟩
  · have := h.2.2.1
    unfold World.frozen? at this ⊢
    rw [e]
    exact this
  · have := h.2.2.2
    unfold World.frozen? at this ⊢
    rw [e]
    exact this
theorem Bx.set {w : World} {O : Nat} {u v : Value} (h : Bx w O u v) (v' : Value) : Bx (w.setCell ⟨O, 1, none⟩ v') O u v' :=
  ⟨by rw [World.cell?_setCell_other (h := fun e => by injection e; omega)]; exact h.1, World.cell?_setCell_same _ _ _ h.2.1, by rw [World.frozen?_setCell]; exact h.2.2.1, by rw [World.frozen?_setCell]; exact h.2.2.2⟩
theorem Bx.set0 {w : World} {O : Nat} {u v : Value} (h : Bx w O u v) (u' : Value) : Bx (w.setCell ⟨O, 0, none⟩ u') O u' v :=
  ⟨World.cell?_setCell_same _ _ _ h.1, by rw [World.cell?_setCell_other (h := fun e => by injection e; omega)]; exact h.2.1, by rw [World.frozen?_setCell]; exact h.2.2.1, by rw [World.frozen?_setCell]; exact h.2.2.2⟩
theorem Bx.other {w : World} {O : Nat} {u v : Value} (h : Bx w O u v) {p : Addr} (hp : p.block ≠ O) (v' : Value) : Bx (w.setCell p v') O u v :=
  ⟨by rw [World.cell?_setCell_other (h := fun e => hp (by rw [e]))]; exact h.1, by rw [World.cell?_setCell_other (h := fun e => hp (by rw [e]))]; exact h.2.1, by rw [World.frozen?_setCell]; exact h.2.2.1, by rw [World.frozen?_setCell]; exact h.2.2.2⟩
/-- Postings in a row of the call's own. -/
def GrowPs (w : World) (B : Nat) (v : Value) (l : List Am) : Prop := w.ownsRow B 60 2 v l.length (cellsL l)
theorem GrowPs.lt {w : World} {B : Nat} {v : Value} {l : List Am} (h : GrowPs w B v l) : ∀ k, v.ownBlock = some k → B ≤ k ∧ k < w.heap.size := World.ownsRow.lt h
theorem GrowPs.came {w : World} {B : Nat} {v : Value} {l : List Am} (h : GrowPs w B v l) : ∃ x c, v = .slice x l.length c ∧ CameA w x l := by
  have hh := h
  rcases h.2 with ⟨e, h0⟩ | ⟨g, c, cur, e, _⟩
  · exact ⟨none, 0, by rw [e, h0], .inl h0⟩
  · subst e
    refine ⟨_, c, rfl, .inr ⟨g, 0, rfl, (World.ownsRow.lt hh g rfl).2, fun j hj => ⟨?_, ?_⟩⟩⟩
    · rw [Nat.zero_add, World.ownsRow.cellAt hh (j * 2) (by omega)]
      have := cellsL_get l j 0 hj (by omega)
      rw [Nat.add_zero] at this
      rw [this]
      rfl
    · rw [Nat.zero_add, World.ownsRow.cellAt hh (j * 2 + 1) (by omega), cellsL_get l j 1 hj (by omega)]
      rfl
theorem GrowPs.set {w : World} {B : Nat} {v : Value} {l : List Am} (h : GrowPs w B v l) {p : Addr} (hp : p.block < B) (u : Value) : GrowPs (w.setCell p u) B v l := by
  have hh := h
  refine ⟨h.1, ?_⟩
  rcases h.2 with h1 | ⟨g, c, cur, e, h2, h3, h4⟩
  · exact .inl h1
  · exact .inr ⟨g, c, cur, e, h2, (Go.Deep.blk_setCell_other w p u g (by omega)).trans h3, h4⟩
theorem run_appPs (w : World) (ty : TypeId) (B : Nat) (v : Value) (L : List Am) (h : GrowPs w B v L) (g0 : Nat) (hg0 : g0 = w.heap.size) (nm : ByteArray) (mo : Int) (hl : L.length ≤ 1000) (hB : B ≤ w.heap.size) :
    ∃ v' w', (Builtin.append_ #[27, 27] ty #[v, .slice (some ⟨g0, 0, none⟩) 1 1]).run Try.prog (w.alloc (.cells #[.string nm, .int .i64 mo] 60)) = .ok v' w' ∧ GrowPs w' B v' (L ++ [⟨nm, mo⟩]) ∧ Go.RowKit.Below B w w' := by
  subst hg0
  obtain ⟨i0, hi, hz0, hz1, hz2⟩ := info_parts infoPo
  have hbx := kbelow_box w (.cells #[.string nm, .int .i64 mo] 60)
  have hnews : ∀ j u, [Value.string nm, .int .i64 mo][j]? = some u → (w.alloc (.cells #[.string nm, .int .i64 mo] 60)).cell? ((⟨w.heap.size, 0, none⟩ : Addr).add j) = some u := by
    intro j u hu
    rw [Addr.add_lit, Nat.zero_add, World.cell?_alloc_at (w := w) _ _ _ _ rfl]
    match j with
    | 0 => simpa using hu
    | 1 => simpa using hu
    | j + 2 => simp at hu
  obtain ⟨v', w', hr, r2, r3, _, r5⟩ := run_append_own_at (P := Try.prog) _ B 27 ty 60 i0 _ 2 24 Try.underlying27 hi hz0 hz1 hz2 rfl (by decide) v L.length _ (World.ownsRow.alloc h _) ⟨w.heap.size, 0, none⟩ 1 1 [.string nm, .int .i64 mo] rfl hnews (by intro u hu; simp at hu; rcases hu with rfl | rfl <;> rfl) (by unfold maxLen; omega) (by omega) (Nat.le_trans hB hbx.size)
  refine ⟨v', w', hr, ?_, ((Below.refl B w).alloc hB _).trans ((Below.refl B _).grown r3 (Nat.le_trans hB hbx.size) fun k hk => (h.lt k hk).1)⟩
  unfold GrowPs
  rw [List.length_append, cellsL_append]
  exact r2
theorem neg_take (l : List Am) {k : Nat} (h : k < l.length) : neg (l.take k) ++ [⟨(anth l k).name, -(anth l k).mon⟩] = neg (l.take (k + 1)) := by
  rw [List.take_add_one, List.getElem?_eq_getElem h, anth, List.getD_eq_getElem?_getD, List.getElem?_eq_getElem h]
  unfold neg
  rw [List.map_append]
  rfl
set_option maxRecDepth 100000 in
set_option maxHeartbeats 4000000 in
theorem turnOf_any (d : Int) (ax : Option Addr) (m cx : Nat) (ps : List Am) (w : World) (hp : PsAt w ax ps) (hm : ps.length = m) (h20 : m ≤ 20) (hmo : ∀ i, -1000000000000 ≤ (anth ps i).mon ∧ (anth ps i).mon ≤ 1000000000000) :
    Calls Try.prog 18 #[.agg #[.int .i64 d, .slice ax m cx]] w fun e w' => ∃ x c, e = .returned (.agg #[.int .i64 d, .slice x m c]) ∧ PsAt w' x (neg ps) ∧ (ps.length = 0 ∨ ∃ b off, x = some ⟨b, off, none⟩ ∧ w.heap.size ≤ b) ∧ Go.RowKit.Below w.heap.size w w' := by
  obtain ⟨W0, hW0⟩ : ∃ W0, ((w.alloc (.cells #[.int .i64 d, .slice ax m cx] 29)).alloc (.cells #[.int .i64 0, .slice none 0 0] 29)).alloc (.cells #[.int .i64 d, .slice none 0 0] 29) = W0 := ⟨_, rfl⟩
  have HSW : Hid (W0.heap.size = w.heap.size + 3) := by subst hW0; exact Lib.hid (by simp)
  have HB0 : Hid (Go.RowKit.Below w.heap.size w W0) := by subst hW0; exact Lib.hid ((((Below.refl w.heap.size w).alloc (Nat.le_refl _) _).alloc (by simp) _).alloc (by simp; omega) _)
  have HX0 : Hid (Bx W0 w.heap.size (.int .i64 d) (.slice ax m cx)) := by
    subst hW0
    exact Lib.hid (((Bx.made w _ _ _).below (kbelow_box _ _) (by simp)).below (kbelow_box _ _) (by simp; omega))
  have HR0 : Hid (Bx W0 (w.heap.size + 1) (.int .i64 0) (.slice none 0 0)) := by
    subst hW0
    have := Bx.made (w.alloc (.cells #[.int .i64 d, .slice ax m cx] 29)) (.int .i64 0) (.slice none 0 0) 29
    rw [World.size_alloc] at this
    exact Lib.hid (this.below (kbelow_box _ _) (by simp))
  have HO0 : Hid (Bx W0 (w.heap.size + 1 + 1) (.int .i64 d) (.slice none 0 0)) := by
    subst hW0
    have := Bx.made ((w.alloc (.cells #[.int .i64 d, .slice ax m cx] 29)).alloc (.cells #[.int .i64 0, .slice none 0 0] 29)) (.int .i64 d) (.slice none 0 0) 29
    rw [World.size_alloc, World.size_alloc] at this
    exact Lib.hid this
  have HFIT := Lib.hid hp.2.1
  have HML := Lib.hid hp.2.2
  have HO := Lib.hid (fun h0 => hp.1.open hm h0)
  have HM := Lib.hid hm
  have HMO := Lib.hid hmo
  have HW0 := Lib.hid hW0
  clear hp hm hmo hW0
  go_enter Try.func18, Try.ntmps18
  go_wp2_with fail
  rw [HW0.out]
  clear HW0
  go_loopw [4] (fun i wr => ∃ k : Nat, ∃ v : Value, k ≤ m ∧ i = .int .i64 k ∧ Bx wr w.heap.size (.int .i64 d) (.slice ax m cx) ∧ Bx wr (w.heap.size + 1) (.int .i64 0) (.slice none 0 0) ∧ Bx wr (w.heap.size + 1 + 1) (.int .i64 d) v ∧ GrowPs wr W0.heap.size v (neg (ps.take k)) ∧ Go.RowKit.Below w.heap.size w wr ∧ W0.heap.size ≤ wr.heap.size) (fun i _ => m - (intOf i).toNat)
  case atStart => exact ⟨0, _, Nat.zero_le _, rfl, HX0.out, HR0.out, HO0.out, World.ownsRow_nil _ _ _ _, HB0.out, Nat.le_refl _⟩
  case round =>
    clear HX0 HR0 HO0 HB0
    obtain ⟨k, v, hk, rfl, hX, hR, hO, hG, hb, hsz⟩ := hrel
    have HX := Lib.hid hX
    have HR := Lib.hid hR
    have HOB := Lib.hid hO
    have HG := Lib.hid hG
    have HB := Lib.hid hb
    have HSZ := Lib.hid hsz
    obtain ⟨x0, x1, -, -⟩ := hX
    obtain ⟨o0, o1, o2, o3⟩ := hO
    clear hG hb hsz hR
    by_cases hlt : k < m
    · have hlt' : (k : Int) < (m : Int) := by omega
      obtain ⟨b, off, rfl, hcell⟩ := HO.out (by omega)
      obtain ⟨p0, p1⟩ := hcell wr HB.out k hlt
      clear hcell
      have HNT := Lib.hid (neg_take ps (k := k) (by rw [HM.out]; exact hlt))
      have hbd := HMO.out k
      generalize (anth ps k).name = nm at *
      generalize (anth ps k).mon = mo at *
      obtain ⟨v9, w9, hrun, hg9, hb9⟩ := run_appPs wr.drew 27 W0.heap.size v (neg (ps.take k)) HG.out _ rfl nm (-mo) (by rw [neg_len, List.length_take]; omega) HSZ.out
      obtain ⟨x9, n9, c9, rfl⟩ : ∃ x9 n9 c9, v9 = .slice x9 n9 c9 := by
        obtain ⟨x9, c9, e9, -⟩ := hg9.came
        exact ⟨x9, _, c9, e9⟩
      have hrun2 : (Builtin.append_ #[27, 27] 27 #[v, .slice (some ⟨wr.heap.size, 0, none⟩) 1 1]).run Try.prog ((wr.alloc (.cells #[.string nm, .int .i64 (-mo)] 60)).drew) = .ok (.slice x9 n9 c9) w9 := hrun
      have hrun3 : (Builtin.append_ #[27, 27] 27 #[v, .slice (some ⟨wr.heap.size, 0, none⟩) 1 1]).run Try.prog (wr.drew.alloc (.cells #[.string nm, .int .i64 (-mo)] 60)) = .ok (.slice x9 n9 c9) w9 := hrun
      have hb9' : Go.RowKit.Below W0.heap.size wr w9 := (Below.refl W0.heap.size wr).drew.trans hb9
      have HG9 := Lib.hid hg9
      have HB9 := Lib.hid (HB.out.trans (hb9'.mono (show w.heap.size ≤ W0.heap.size by have := HSW.out; omega)))
      have HX9 := Lib.hid (HX.out.below hb9' (by have := HSW.out; omega))
      have HR9 := Lib.hid (HR.out.below hb9' (by have := HSW.out; omega))
      have HO9 := Lib.hid (HOB.out.below hb9' (by have := HSW.out; omega))
      have HS9 : Hid (W0.heap.size ≤ w9.heap.size) := Lib.hid (Nat.le_trans HSZ.out hb9'.size)
      obtain ⟨q0, q1, q2, q3⟩ := HO9.out
      have hlo : w.heap.size + 1 + 1 < wr.heap.size := by have := HSW.out; have := HSZ.out; omega
      have hlo' : w.heap.size + 1 + 1 ≠ wr.heap.size := by omega
      have o1' : (wr.alloc (.cells #[.string nm, .int .i64 (-mo)] 60)).cell? ⟨w.heap.size + 1 + 1, 1, none⟩ = some v := (World.cell?_alloc_past (w := wr) _ _ _ hlo).trans o1
      have o1'' : (wr.alloc (.cells #[.string nm, .int .i64 (-mo)] 60)).drew.cell? ⟨w.heap.size + 1 + 1, 1, none⟩ = some v := o1'
      clear hrun hg9 hb9 hb9'
      have hwr : IntKind.i64.wrap (-mo) = -mo := IntWalk.i64_in _ (by omega)
      have HRUN := Lib.hid hrun2
      have HRUN3 := Lib.hid hrun3
      clear hrun2 hrun3
      go_wp2_with fail
      have hs := HSW.out
      have HREL : Hid (∃ k1 : Nat, ∃ v : Value, k1 ≤ m ∧ Value.int .i64 ((k : Int) + 1) = .int .i64 k1 ∧ Bx (w9.setCell ⟨w.heap.size + 1 + 1, 1, none⟩ (.slice x9 n9 c9)) w.heap.size (.int .i64 d) (.slice (some ⟨b, off, none⟩) m cx) ∧ Bx (w9.setCell ⟨w.heap.size + 1 + 1, 1, none⟩ (.slice x9 n9 c9)) (w.heap.size + 1) (.int .i64 0) (.slice none 0 0) ∧ Bx (w9.setCell ⟨w.heap.size + 1 + 1, 1, none⟩ (.slice x9 n9 c9)) (w.heap.size + 1 + 1) (.int .i64 d) v ∧ GrowPs (w9.setCell ⟨w.heap.size + 1 + 1, 1, none⟩ (.slice x9 n9 c9)) W0.heap.size v (neg (ps.take k1)) ∧ Go.RowKit.Below w.heap.size w (w9.setCell ⟨w.heap.size + 1 + 1, 1, none⟩ (.slice x9 n9 c9)) ∧ W0.heap.size ≤ (w9.setCell ⟨w.heap.size + 1 + 1, 1, none⟩ (.slice x9 n9 c9)).heap.size) :=
        ⟨k + 1, .slice x9 n9 c9, by omega, by go_num, HX9.out.other (p := ⟨w.heap.size + 1 + 1, 1, none⟩) (by simp; omega) (.slice x9 n9 c9), HR9.out.other (p := ⟨w.heap.size + 1 + 1, 1, none⟩) (by simp) (.slice x9 n9 c9), HO9.out.set (.slice x9 n9 c9), by rw [← HNT.out]; exact HG9.out.set (p := ⟨w.heap.size + 1 + 1, 1, none⟩) (show w.heap.size + 1 + 1 < W0.heap.size by omega) (.slice x9 n9 c9), HB9.out.setCell (p := ⟨w.heap.size + 1 + 1, 1, none⟩) (show w.heap.size ≤ w.heap.size + 1 + 1 by omega) (.slice x9 n9 c9), by simpa using HS9.out⟩
      clear hs
      go_region_law (refine step_run _ (by rfl) (.tmp 16) (.tmp 31) 27 (by rfl) (by rfl) (by rfl) HRUN.out ?_)
      all_goals (first | (refine ⟨HREL.out, ?_⟩; simp [intOf]; omega) | (go_wp2_with fail; refine ⟨HREL.out, ?_⟩; simp [intOf]; omega) | (trace_state; sorry))
    · have hkm : k = m := by omega
      have hT : ps.take k = ps := by rw [hkm, ← HM.out]; exact List.take_length
      rw [hT] at HG
      obtain ⟨x, c, e, hca⟩ := HG.out.came
      rw [neg_len, HM.out] at e
      subst e
      have HPS : Hid (PsAt wr x (neg ps)) := ⟨hca, fun i hi => by rw [neg_len] at hi; rw [neg_at ps hi]; exact HFIT.out i hi, by rw [neg_len]; exact HML.out⟩
      have HGR : Hid (GrowPs wr W0.heap.size (.slice x m c) (neg ps)) := HG
      have HHI : Hid (ps.length = 0 ∨ ∃ b off, x = some ⟨b, off, none⟩ ∧ w.heap.size ≤ b) := by
        rcases HPS.out.1 with h1 | ⟨b, off, e, _⟩
        · exact .inl (by rw [← neg_len]; exact h1)
        · refine .inr ⟨b, off, e, ?_⟩
          have h2 := (HGR.out.lt b (by rw [e]; rfl)).1
          have h3 := HSW.out
          omega
      obtain ⟨r0, r1, r2, r3⟩ := HR.out
      clear hca hT hkm
      go_wp2_with fail
      have hs := HSW.out
      have hBF := (HR.out.set0 (.int .i64 d)).set (.slice x m c)
      have hGF := ((HGR.out.set (p := ⟨w.heap.size + 1, 0, none⟩) (show w.heap.size + 1 < W0.heap.size by omega) (.int .i64 d)).set (p := ⟨w.heap.size + 1, 1, none⟩) (show w.heap.size + 1 < W0.heap.size by omega) (.slice x m c)).came
      have HBF := Lib.hid ((HB.out.setCell (p := ⟨w.heap.size + 1, 0, none⟩) (show w.heap.size ≤ w.heap.size + 1 by omega) (.int .i64 d)).setCell (p := ⟨w.heap.size + 1, 1, none⟩) (show w.heap.size ≤ w.heap.size + 1 by omega) (.slice x m c))
      generalize (wr.setCell ⟨w.heap.size + 1, 0, none⟩ (.int .i64 d)).setCell ⟨w.heap.size + 1, 1, none⟩ (.slice x m c) = wf at *
      obtain ⟨b0, b1, -, -⟩ := hBF
      obtain ⟨x', c', e, hca⟩ := hGF
      injection e with e _ _
      subst e
      have HPF : Hid (PsAt wf x (neg ps)) := ⟨hca, HPS.out.2⟩
      clear r0 r1 r2 r3 x0 x1 o0 o1 o2 o3 hca
      refine bodyPost_ret (v := .agg #[.int .i64 d, .slice x m c]) (by simp [results, Try.results18, go_sem, b0, b1]) rfl ⟨x, c, rfl, HPF.out, HHI.out, HBF.out⟩
end Go.Proofs.Ytdgcfakbmhchdaa
