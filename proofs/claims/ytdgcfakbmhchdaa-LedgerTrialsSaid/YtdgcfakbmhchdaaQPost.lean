/-
  Promise Q2: the walks of checkAsked, Balance, copied and Post; what must be in any case.
-/
import Derived.Test.YtdgcfakbmhchdaaQRef
import Derived.Test.YtdgcfakbmhchdaaMGrow
import Derived.Maps.AppendAt
import Derived.Deep.RegionLaw
import Derived.Laws.IdiomCopy
import Derived.Laws.MakeOwn
import Derived.OwnWalk
import Derived.Lib.Walk
import Derived.Lib.SliceRun
namespace Go.Proofs.Ytdgcfakbmhchdaa
open Go.RowKit

/-- What a copy is: nil, or a new row of n elements of K cells, each f's, that may be written. -/
def ClonIs (w : World) (B K : Nat) (v : Value) (n : Nat) (f : Nat → Value) : Prop := (v = .slice none 0 0 ∧ n = 0) ∨ ∃ g c, v = .slice (some ⟨g, 0, none⟩) n c ∧ B ≤ g ∧ g < w.heap.size ∧ ∀ j, j < n * K → w.cell? ⟨g, j, none⟩ = some (f j) ∧ w.frozen? ⟨g, j, none⟩ = false
theorem wpList_run_app {ops : Array Oper} {rest : List Oper} {o : Oper} {a : Act} {Q : Exit → Act → World → Prop} (w : World) (hgd : o.guard = none) (s x : Operand) (t : TypeId)
    (ho : o.op = .call { callee := .builtin .append, args := #[s, x], argTypes := #[t, t] }) {v u : Value} (hs : a.eval s = v) (hx : a.eval x = u) {P : Value → World → Prop}
    (hrun : ∃ v' w', (Builtin.append_ #[t, t] o.type #[v, u]).run Try.prog w = .ok v' w' ∧ P v' w')
    (h : ∀ v' w', P v' w' → wpList Try.prog ops Q rest (a.put o.dst v') w') :
    wpList Try.prog ops Q (o :: rest) a w := by
  obtain ⟨v', w', hr, h2⟩ := hrun
  refine wpList_plain hgd fun _ hK => ?_
  unfold Oper.wp execOp
  simp only [ho, resolve, invoke, builtin, Sem.run_bind, Sem.run_pure, Result.andThen_ok, List.map_toArray, List.map_cons, List.map_nil, hs, hx, hr]
  exact hK _ _ (h v' w' h2)
theorem infoPo : (Try.prog.info? 60).map (fun i => (i.zero, i.size, i.bytes)) = some (some (.agg #[.string ⟨#[]⟩, .int .i64 0]), 2, 24) := by kernel_rfl
theorem eqInPo (w : World) (d : Nat) (a : Option Addr) (l c : Nat) : (Op.equalIn (d + 1) 27 (.slice a l c) (.slice none 0 0)).run Try.prog w = .ok a.isNone w := by
  cases a <;> simp [Op.equalIn, run_underlying Try.underlying27]
theorem equalPo (w : World) (a : Option Addr) (l c : Nat) : (Op.equal 27 (.slice a l c) (.slice none 0 0)).run Try.prog w = .ok a.isNone w := eqInPo w 9999 a l c
theorem eqlPo (w : World) (a : Option Addr) (l c : Nat) : (binOp .eql 27 (.slice a l c) (.slice none 0 0)).run Try.prog w = .ok (.bool a.isNone) w := by
  simp [binOp, equalPo w a l c]
theorem run_clonePo (w : World) (ty : TypeId) (g0 : Nat) (hg0 : w.ownsRow g0 60 2 (.slice (some ⟨g0, 0, none⟩) 0 0) 0 []) (ad : Addr) (n c : Nat) (f : Nat → Value) (hsrc : n = 0 ∨ ∃ b off, ad = ⟨b, off, none⟩ ∧ ∀ j, j < n * 2 → w.cell? ⟨b, off + j, none⟩ = some (f j)) (h1 : ∀ j, (f j).oneCell' = true) (hn : n * 24 ≤ 140737488355328) :
    ∃ v' w', (Builtin.append_ #[27, 27] ty #[.slice (some ⟨g0, 0, none⟩) 0 0, .slice (some ad) n c]).run Try.prog w = .ok v' w' ∧ ClonIs w' g0 2 v' n f ∧ Go.RowKit.Below g0 w w' := by
  obtain ⟨i0, hi, hz0, hz1, hz2⟩ := info_parts infoPo
  have hlt : g0 < w.heap.size := (World.ownsRow.lt hg0 g0 rfl).2
  have hnews : ∀ j u, ((List.range (n * 2)).map f)[j]? = some u → w.cell? (ad.add j) = some u := by
    intro j u hu
    have hj : j < n * 2 := by
      by_cases h' : j < ((List.range (n * 2)).map f).length
      · simpa using h'
      · rw [List.getElem?_eq_none (by omega)] at hu; cases hu
    rcases hsrc with h0 | ⟨b, off, rfl, hc⟩
    · subst h0; omega
    · rw [Addr.add_lit, hc j hj]
      simpa [hj] using hu
  have h1' : ∀ u ∈ (List.range (n * 2)).map f, u.oneCell' = true := by
    intro u hu
    obtain ⟨j, _, rfl⟩ := List.mem_map.1 hu
    exact h1 j
  obtain ⟨v', w', hr, h2, h3, hnn, h5⟩ := run_append_own_at (P := Try.prog) w g0 27 ty 60 i0 _ 2 24 Try.underlying27 hi hz0 hz1 hz2 rfl (by decide) (.slice (some ⟨g0, 0, none⟩) 0 0) 0 [] hg0 ad n c ((List.range (n * 2)).map f) (by simp) hnews h1' (by unfold maxLen; omega) (by omega) (by omega)
  refine ⟨v', w', hr, ?_, (Below.refl g0 w).grown h3 (by omega) fun k hk => ?_⟩
  · rw [Nat.zero_add, List.nil_append] at h2
    have hh := h2
    rcases h2.2 with ⟨e1, e2⟩ | ⟨g, cp, cur, e1, e2, _⟩
    · exact .inl ⟨e1, e2⟩
    · subst e1
      refine .inr ⟨g, cp, rfl, e2, (World.ownsRow.lt hh g rfl).2, fun j hj => ⟨?_, World.ownsRow.frozenAt hh j⟩⟩
      rw [World.ownsRow.cellAt hh j hj]
      simp [hj]
  · simp [Value.ownBlock] at hk
    omega
set_option maxRecDepth 100000 in
set_option maxHeartbeats 1000000 in
theorem clonePo (a : Option Addr) (n cap : Nat) (f : Nat → Value) (w : World) (hc : n = 0 ∨ ∃ b off, a = some ⟨b, off, none⟩ ∧ ∀ j, j < n * 2 → w.cell? ⟨b, off + j, none⟩ = some (f j)) (h1 : ∀ j, (f j).oneCell' = true) (hn : n * 24 ≤ 140737488355328) :
    Calls Try.prog 45 #[.slice a n cap] w fun e w' => ∃ v, e = .returned v ∧ ClonIs w' w.heap.size 2 v n f ∧ Go.RowKit.Below w.heap.size w w' := by
  cases a with
  | none =>
    have h0 : n = 0 := by
      rcases hc with h | ⟨b, off, e, _⟩
      · exact h
      · cases e
    have HZ := Lib.hid h0
    clear h0 hc hn
    have hq := eqlPo
    go_enter Try.func45, Try.ntmps45
    go_wp2_with fail
    go_ret
    exact ⟨_, rfl, .inl ⟨rfl, HZ.out⟩, Below.refl _ _⟩
  | some ad =>
    have HG0 := Lib.hid (World.ownsRow_made (w := w) (base := w.heap.size) (e := 60) (size := 2) #[] 0 (Nat.le_refl _) (Nat.zero_le _) rfl)
    have HB0 := Lib.hid (kbelow_box w (.cells #[] 60))
    have HC : Hid (n = 0 ∨ ∃ b off, ad = ⟨b, off, none⟩ ∧ ∀ j, j < n * 2 → (w.alloc (.cells #[] 60)).cell? ⟨b, off + j, none⟩ = some (f j)) := by
      rcases hc with h | ⟨b, off, e, h⟩
      · exact .inl h
      · cases e
        refine .inr ⟨b, off, rfl, fun j hj => ?_⟩
        rw [HB0.out.cell (p := ⟨b, off + j, none⟩) (oblt_of_cell (h j hj))]
        exact h j hj
    have H1 := Lib.hid h1
    have HNN := Lib.hid hn
    clear hc hn h1
    have hq := eqlPo
    go_enter Try.func45, Try.ntmps45
    go_wp2_with (first | (at_builtin; refine wpList_run_app _ rfl _ _ _ rfl rfl rfl (run_clonePo _ _ w.heap.size HG0.out ad n cap f HC.out H1.out (by have := HNN.out; omega)) ?_; rintro v' w2 ⟨hcl, hbel⟩))
    go_ret
    exact ⟨_, rfl, hcl, HB0.out.trans hbel⟩
/-- The cells of amounts. -/
def cellA (l : List Am) (j : Nat) : Value := if j % 2 = 0 then .string (anth l (j / 2)).name else .int .i64 (anth l (j / 2)).mon
theorem cellA_one (l : List Am) (j : Nat) : (cellA l j).oneCell' = true := by unfold cellA; split <;> rfl
theorem cellA_of {w : World} {b off : Nat} {l : List Am} (h : AAt w b off l) : ∀ j, j < l.length * 2 → w.cell? ⟨b, off + j, none⟩ = some (cellA l j) := by
  intro j hj
  obtain ⟨h0, h1⟩ := h.2 (j / 2) (by omega)
  unfold cellA
  by_cases e : j % 2 = 0
  · rw [if_pos e, show off + j = off + j / 2 * 2 by omega]; exact h0
  · rw [if_neg e, show off + j = off + j / 2 * 2 + 1 by omega]; exact h1
theorem aat_of_cells {w : World} {g off : Nat} {l : List Am} (hg : g < w.heap.size) (h : ∀ j, j < l.length * 2 → w.cell? ⟨g, off + j, none⟩ = some (cellA l j)) : AAt w g off l := by
  refine ⟨hg, fun j hj => ⟨?_, ?_⟩⟩
  · have := h (j * 2) (by omega)
    unfold cellA at this
    rw [if_pos (by omega), show j * 2 / 2 = j by omega] at this
    exact this
  · have := h (j * 2 + 1) (by omega)
    unfold cellA at this
    rw [if_neg (by omega), show (j * 2 + 1) / 2 = j by omega] at this
    exact this
/-- Amounts of the call's own, from block B on, whose money may be written. -/
def Fre (w : World) (B : Nat) (a : Option Addr) (l : List Am) : Prop := l.length = 0 ∨ ∃ b off, a = some ⟨b, off, none⟩ ∧ B ≤ b ∧ b < w.heap.size ∧ ∀ i, i < l.length → w.frozen? ⟨b, off + i * 2 + 1, none⟩ = false
theorem cellA_src {w : World} {a : Option Addr} {l : List Am} (h : CameA w a l) : l.length = 0 ∨ ∃ b off, a = some ⟨b, off, none⟩ ∧ ∀ j, j < l.length * 2 → w.cell? ⟨b, off + j, none⟩ = some (cellA l j) := by
  rcases h with h | ⟨b, off, rfl, h⟩
  · exact .inl h
  · exact .inr ⟨b, off, rfl, cellA_of h⟩
theorem ClonIs.set {w : World} {B K : Nat} {v : Value} {n : Nat} {f : Nat → Value} (h : ClonIs w B K v n f) {p : Addr} (hp : p.block < B) (u : Value) : ClonIs (w.setCell p u) B K v n f := by
  rcases h with h | ⟨g, c, e, h1, h2, h3⟩
  · exact .inl h
  · refine .inr ⟨g, c, e, h1, by simpa using h2, fun j hj => ⟨?_, by rw [World.frozen?_setCell]; exact (h3 j hj).2⟩⟩
    rw [World.cell?_setCell_other (h := fun e' => by rw [e'] at hp; simp at hp; omega)]
    exact (h3 j hj).1
theorem ClonIs.mono {w : World} {B B' K : Nat} {v : Value} {n : Nat} {f : Nat → Value} (h : ClonIs w B K v n f) (hB : B' ≤ B) : ClonIs w B' K v n f := by
  rcases h with h | ⟨g, c, e, h1, h2⟩
  · exact .inl h
  · exact .inr ⟨g, c, e, Nat.le_trans hB h1, h2⟩
theorem ClonIs.form {w : World} {B K : Nat} {v : Value} {n : Nat} {f : Nat → Value} (h : ClonIs w B K v n f) : ∃ x c, v = .slice x n c := by
  rcases h with ⟨h, e⟩ | ⟨g, c, e, _⟩
  · exact ⟨none, 0, by rw [h, e]⟩
  · exact ⟨_, c, e⟩
/-- Postings that are the call's own, from block B on. -/
theorem ps_of_clone {w : World} {B : Nat} {v : Value} {l : List Am} (hcl : ClonIs w B 2 v l.length (cellA l)) (hf : NamesFit l) (hm : l.length ≤ maxLen) : ∃ x c, v = .slice x l.length c ∧ PsAt w x l ∧ Fre w B x l := by
  rcases hcl with ⟨rfl, h0⟩ | ⟨g, c, rfl, hB, hg, hc⟩
  · exact ⟨none, 0, by rw [h0], ⟨.inl h0, hf, hm⟩, .inl h0⟩
  · exact ⟨_, c, rfl, ⟨.inr ⟨g, 0, rfl, aat_of_cells hg (fun j hj => by rw [Nat.zero_add]; exact (hc j hj).1)⟩, hf, hm⟩, .inr ⟨g, 0, rfl, hB, hg, fun i hi => by rw [Nat.zero_add]; exact (hc (i * 2 + 1) (by omega)).2⟩⟩
set_option maxRecDepth 100000 in
set_option maxHeartbeats 2000000 in
theorem copied_any (d : Int) (a : Option Addr) (n cap : Nat) (l : List Am) (w : World) (hp : PsAt w a l) (hn : l.length = n) (h20 : n * 24 ≤ 140737488355328) :
    Calls Try.prog 29 #[.agg #[.int .i64 d, .slice a n cap]] w fun e w' => ∃ x c, e = .returned (.agg #[.int .i64 d, .slice x n c]) ∧ ClonIs w' w.heap.size 2 (.slice x n c) n (cellA l) ∧ Go.RowKit.Below w.heap.size w w' := by
  have HP := Lib.hid hp
  have HN := Lib.hid hn
  have HB0 : Hid (Go.RowKit.Below w.heap.size w ((w.alloc (.cells #[.int .i64 d, .slice a n cap] 29)).alloc (.cells #[.int .i64 0, .slice none 0 0] 29))) := Lib.hid (((Below.refl _ w).alloc (Nat.le_refl _) _).alloc (by simp) _)
  have hsrc : n = 0 ∨ ∃ b off, a = some ⟨b, off, none⟩ ∧ ∀ j, j < n * 2 → ((w.alloc (.cells #[.int .i64 d, .slice a n cap] 29)).alloc (.cells #[.int .i64 0, .slice none 0 0] 29)).cell? ⟨b, off + j, none⟩ = some (cellA l j) := by
    have := cellA_src (hp.below HB0.out).1
    rw [hn] at this
    exact this
  have HS := Lib.hid hsrc
  clear hp hn hsrc
  go_enter Try.func29, Try.ntmps29
  go_wp2_with fail
  refine (clonePo a n cap (cellA l) _ HS.out (cellA_one l) h20).mono ?_
  rintro e w1 ⟨v, rfl, hcl, hb1⟩
  obtain ⟨x, c, rfl⟩ := hcl.form
  have HB1 := Lib.hid (HB0.out.trans (hb1.mono HB0.out.size))
  have hs2 : ((w.alloc (.cells #[.int .i64 d, .slice a n cap] 29)).alloc (.cells #[.int .i64 0, .slice none 0 0] 29)).heap.size = w.heap.size + 2 := by simp
  rw [hs2] at hcl hb1
  have HCL := Lib.hid hcl
  have b0 : w1.heap[w.heap.size]? = some (.cells #[.int .i64 d, .slice a n cap] 29 (0, 0)) := (hb1.block w.heap.size (by omega)).trans ((Below.heap_alloc _ _ _ (by simp)).trans (World.alloc_heap_new w _))
  have b1 : w1.heap[w.heap.size + 1]? = some (.cells #[.int .i64 0, .slice none 0 0] 29 (0, 0)) := (hb1.block (w.heap.size + 1) (by omega)).trans (by
    have := World.alloc_heap_new (w.alloc (.cells #[.int .i64 d, .slice a n cap] 29)) (.cells #[.int .i64 0, .slice none 0 0] 29)
    rwa [World.size_alloc] at this)
  have k0 : w1.cell? ⟨w.heap.size, 0, none⟩ = some (.int .i64 d) := by simp [World.cell?, b0]
  have k1 : w1.cell? ⟨w.heap.size, 1, none⟩ = some (.slice a n cap) := by simp [World.cell?, b0]
  have k2 : w1.frozen? ⟨w.heap.size, 1, none⟩ = false := by simp [World.frozen?, b0]
  have r0 : w1.cell? ⟨w.heap.size + 1, 0, none⟩ = some (.int .i64 0) := by simp [World.cell?, b1]
  have r1 : w1.cell? ⟨w.heap.size + 1, 1, none⟩ = some (.slice none 0 0) := by simp [World.cell?, b1]
  have r2 : w1.frozen? ⟨w.heap.size + 1, 0, none⟩ = false := by simp [World.frozen?, b1]
  have r3 : w1.frozen? ⟨w.heap.size + 1, 1, none⟩ = false := by simp [World.frozen?, b1]
  clear hcl hb1 hs2 b0 b1
  go_wp2_with fail
  have q0 : (((w1.setCell ⟨w.heap.size, 1, none⟩ (.slice x n c)).setCell ⟨w.heap.size + 1, 0, none⟩ (.int .i64 d)).setCell ⟨w.heap.size + 1, 1, none⟩ (.slice x n c)).cell? ⟨w.heap.size + 1, 0, none⟩ = some (.int .i64 d) := by
    rw [World.cell?_setCell_other (h := fun e => by injection e; omega)]
    exact World.cell?_setCell_same _ _ _ (by rw [World.cell?_setCell_other (h := fun e => by injection e; omega)]; exact r0)
  have q1 : (((w1.setCell ⟨w.heap.size, 1, none⟩ (.slice x n c)).setCell ⟨w.heap.size + 1, 0, none⟩ (.int .i64 d)).setCell ⟨w.heap.size + 1, 1, none⟩ (.slice x n c)).cell? ⟨w.heap.size + 1, 1, none⟩ = some (.slice x n c) :=
    World.cell?_setCell_same _ _ _ (by rw [World.cell?_setCell_other (h := fun e => by injection e; omega), World.cell?_setCell_other (h := fun e => by injection e; omega)]; exact r1)
  have HF := Lib.hid ((((HCL.out.set (p := ⟨w.heap.size, 1, none⟩) (show w.heap.size < w.heap.size + 2 by omega) (.slice x n c)).set (p := ⟨w.heap.size + 1, 0, none⟩) (show w.heap.size + 1 < w.heap.size + 2 by omega) (.int .i64 d)).set (p := ⟨w.heap.size + 1, 1, none⟩) (show w.heap.size + 1 < w.heap.size + 2 by omega) (.slice x n c)).mono (show w.heap.size ≤ w.heap.size + 2 by omega))
  have HG := Lib.hid (((HB1.out.setCell (p := ⟨w.heap.size, 1, none⟩) (Nat.le_refl _) (.slice x n c)).setCell (p := ⟨w.heap.size + 1, 0, none⟩) (show w.heap.size ≤ w.heap.size + 1 by omega) (.int .i64 d)).setCell (p := ⟨w.heap.size + 1, 1, none⟩) (show w.heap.size ≤ w.heap.size + 1 by omega) (.slice x n c))
  generalize ((w1.setCell ⟨w.heap.size, 1, none⟩ (.slice x n c)).setCell ⟨w.heap.size + 1, 0, none⟩ (.int .i64 d)).setCell ⟨w.heap.size + 1, 1, none⟩ (.slice x n c) = wf at *
  clear k0 k1 k2 r0 r1 r2 r3
  refine bodyPost_ret (v := .agg #[.int .i64 d, .slice x n c]) (by simp [results, Try.results29, go_sem, q0, q1]) rfl ⟨x, c, rfl, HF.out, HG.out⟩
/-- What is wrong with what is asked of a journal. -/
def askE (l : List En) (s : ByteArray) (f t : Int) : Int := if jrE l = 0 then (if namB s = true then (if dayB f = true ∧ dayB t = true ∧ f ≤ t then 0 else 3) else 1) else jrE l
set_option maxRecDepth 100000 in
set_option maxHeartbeats 2000000 in
theorem checkAsked_any (a : Option Addr) (n cap : Nat) (l : List En) (s : ByteArray) (f t : Int) (w : World) (hc : CameE w a l) (hn : l.length = n) :
    Calls Try.prog 33 #[.slice a n cap, .string s, .int .i64 f, .int .i64 t] w fun e w' => e = .returned (.int .i64 (askE l s f t)) ∧ Below w.heap.size w w' := by
  have HC := Lib.hid hc
  have HN := Lib.hid hn
  have HE : Hid (askE l s f t = if jrE l = 0 then (if namB s = true then (if dayB f = true ∧ dayB t = true ∧ f ≤ t then 0 else 3) else 1) else jrE l) := rfl
  clear hc hn
  go_enter Try.func33, Try.ntmps33
  go_wp2_with fail
  refine (Check_any a n cap l _ HC.out HN.out).mono ?_
  rintro e w1 ⟨rfl, hb1⟩
  have HB1 := Lib.hid hb1
  clear hb1
  by_cases h0 : jrE l = 0
  · rw [if_pos h0] at HE
    rw [h0]
    clear h0
    go_wp2_with fail
    refine (IsName_any s _).mono ?_
    rintro e w2 ⟨bn, rfl, hbn, hbel⟩
    have HB2 := Lib.hid (HB1.out.trans (hbel.mono HB1.out.size))
    clear hbel
    cases bn
    · have hnb : namB s = false := decide_eq_false (fun h => by have := hbn.2 h; cases this)
      rw [hnb, if_neg (by decide)] at HE
      clear hbn hnb
      go_wp2_with fail
      go_ret
      exact ⟨kret_int HE.out.symm, HB2.out⟩
    · have hnb : namB s = true := decide_eq_true (hbn.1 rfl)
      rw [hnb, if_pos rfl] at HE
      clear hbn hnb
      cases hf : dayB f
      · have ht := hf
        rw [hf, if_neg (by simp)] at HE
        go_wp2_with (first | (go_at_call 36; refine (isDay_any _ _).mono ?_; rintro e w' ⟨rfl, h'⟩; subst w'; first | rw [hf] | rw [ht]))
        go_ret
        exact ⟨kret_int HE.out.symm, HB2.out⟩
      · cases ht : dayB t
        · rw [ht, if_neg (by simp)] at HE
          go_wp2_with (first | (go_at_call 36; refine (isDay_any _ _).mono ?_; rintro e w' ⟨rfl, h'⟩; subst w'; first | rw [hf] | rw [ht]))
          go_ret
          exact ⟨kret_int HE.out.symm, HB2.out⟩
        · by_cases hft : f ≤ t
          · rw [hf, ht, if_pos ⟨rfl, rfl, hft⟩] at HE
            have hft' : decide (t < f) = false := decide_eq_false (by omega)
            go_wp2_with (first | (go_at_call 36; refine (isDay_any _ _).mono ?_; rintro e w' ⟨rfl, h'⟩; subst w'; first | rw [hf] | rw [ht]))
            go_ret
            exact ⟨kret_int HE.out.symm, HB2.out⟩
          · rw [if_neg (fun h => hft h.2.2)] at HE
            have hft' : t < f := by omega
            go_wp2_with (first | (go_at_call 36; refine (isDay_any _ _).mono ?_; rintro e w' ⟨rfl, h'⟩; subst w'; first | rw [hf] | rw [ht]))
            go_ret
            exact ⟨kret_int HE.out.symm, HB2.out⟩
  · rw [if_neg h0] at HE
    have h0' : (jrE l != 0) = true := by simp [h0]
    obtain ⟨cc, hcc⟩ : ∃ c, jrE l = c := ⟨_, rfl⟩
    rw [hcc] at HE h0' ⊢
    clear h0 hcc
    go_wp2_with fail
    go_ret
    exact ⟨kret_int HE.out.symm, HB1.out⟩
theorem askE_ok {l : List En} {s : ByteArray} {f t : Int} (h : askE l s f t = 0) : jrE l = 0 ∧ namB s = true ∧ dayB f = true ∧ dayB t = true ∧ f ≤ t := by
  unfold askE at h
  split at h
  · rename_i h0
    split at h
    · rename_i h1
      split at h
      · rename_i h2
        exact ⟨h0, h1, h2⟩
      · cases h
    · cases h
  · rename_i h0
    exact absurd h h0
theorem balances_any (a : Option Addr) (len cap : Nat) (l : List En) (hlen : l.length = len) (day : Int) (w : World) (hc : CameE w a l) (h0 : jrE l = 0) :
    Calls Try.prog 35 #[.slice a len cap, .int .i64 day] w fun e W' => e = .returned (.map (some w.heap.size)) ∧ SumS W' w.heap.size (pst l 0 day).length (sumsS (pst l 0 day)) ∧ Go.RowKit.Below w.heap.size w W' :=
  callsIn_wide.1 (balances_in Fence.wide 3 trivial trivial trivial rfl (by omega) a len cap l hlen day w hc h0)
/-- What an account comes to up to a day. -/
def balV (l : List En) (s : ByteArray) (day : Int) : Int := if askE l s 0 day = 0 then sumN s (pst l 0 day) else 0
set_option maxRecDepth 100000 in
set_option maxHeartbeats 2000000 in
theorem Balance_any (a : Option Addr) (n cap : Nat) (l : List En) (s : ByteArray) (day : Int) (w : World) (hc : CameE w a l) (hn : l.length = n) :
    Calls Try.prog 21 #[.slice a n cap, .string s, .int .i64 day] w fun e w' => e = .returned (.tuple #[.int .i64 (balV l s day), .int .i64 (askE l s 0 day)]) ∧ Below w.heap.size w w' := by
  have HC := Lib.hid hc
  have HN := Lib.hid hn
  have HV : Hid (balV l s day = if askE l s 0 day = 0 then sumN s (pst l 0 day) else 0) := rfl
  clear hc hn
  go_enter Try.func21, Try.ntmps21
  go_wp2_with fail
  refine (checkAsked_any a n cap l s 0 day _ HC.out HN.out).mono ?_
  rintro e w1 ⟨rfl, hb1⟩
  have HB1 := Lib.hid hb1
  clear hb1
  by_cases h0 : askE l s 0 day = 0
  · obtain ⟨q1, q2, _⟩ := askE_ok h0
    have HQ := Lib.hid q1
    have hsz : s.size ≤ maxLen := by
      have := (of_decide_eq_true q2 : NameP s).2.1
      unfold maxLen
      omega
    have HSZ := Lib.hid hsz
    rw [if_pos h0] at HV
    have H0 := Lib.hid h0
    rw [h0]
    clear h0 q1 q2 hsz
    go_wp2_with fail
    refine (balances_any a n cap l HN.out day _ (HC.out.below HB1.out) HQ.out).mono ?_
    rintro e w2 ⟨rfl, hsm, hb2⟩
    have HB2 := Lib.hid (HB1.out.trans (hb2.mono HB1.out.size))
    have hlook := hsm.look s HSZ.out
    rw [sumsS_getD] at hlook
    clear hb2 hsm
    go_wp2_with fail
    go_ret2
    exact ⟨by rw [HV.out, H0.out]; rfl, HB2.out⟩
  · rw [if_neg h0] at HV
    have h0' : (askE l s 0 day != 0) = true := by simp [h0]
    obtain ⟨cc, hcc⟩ : ∃ c, askE l s 0 day = c := ⟨_, rfl⟩
    have HCC := Lib.hid hcc
    rw [hcc] at h0' ⊢
    clear h0 hcc
    go_wp2_with fail
    go_ret2
    exact ⟨by rw [HV.out, HCC.out]; rfl, HB1.out⟩
/-- The entries L lie in a row of the call's own; no posting lies in that row. -/
def RowsE (w : World) (v : Value) (L : List En) (xs : List Value) : Prop := ∀ j, j < L.length → xs[j * 2]? = some (.int .i64 (enth L j).day) ∧ ∃ x c, xs[j * 2 + 1]? = some (.slice x (enth L j).ps.length c) ∧ PsAt w x (enth L j).ps ∧ ((enth L j).ps.length = 0 ∨ ∃ b off, x = some ⟨b, off, none⟩ ∧ v.ownBlock ≠ some b)
def GrowE (w : World) (B : Nat) (v : Value) (L : List En) : Prop := ∃ xs, w.ownsRow B 29 2 v L.length xs ∧ RowsE w v L xs
theorem GrowE.below {w w' : World} {B : Nat} {v : Value} {L : List En} (h : GrowE w B v L) (hb : Go.RowKit.Below w.heap.size w w') : GrowE w' B v L := by
  obtain ⟨xs, h1, h2⟩ := h
  refine ⟨xs, ?_, fun j hj => ?_⟩
  · refine World.ownsRow.kept (row := none) h1 ⟨hb.os, hb.tape, hb.output, hb.size, fun k hk _ => hb.block k hk⟩ ?_
    cases v.ownBlock with
    | none => exact .inl rfl
    | some k => exact .inr (Option.some_ne_none k)
  · obtain ⟨q1, x, c, q2, q3, q4⟩ := h2 j hj
    exact ⟨q1, x, c, q2, q3.below hb, q4⟩
theorem GrowE.lt {w : World} {B : Nat} {v : Value} {L : List En} (h : GrowE w B v L) : ∀ k, v.ownBlock = some k → B ≤ k ∧ k < w.heap.size := by
  obtain ⟨xs, h1, _⟩ := h
  exact World.ownsRow.lt h1
/-- Entries that lie in a slice. -/
def EnsIn (w : World) (v : Value) (l : List En) : Prop := ∃ x c, v = .slice x l.length c ∧ CameE w x l
theorem EnsIn.below {w w' : World} {v : Value} {l : List En} (h : EnsIn w v l) (hb : Go.RowKit.Below w.heap.size w w') : EnsIn w' v l := by
  obtain ⟨x, c, e, h⟩ := h
  exact ⟨x, c, e, h.below hb⟩
theorem EnsIn.nil (w : World) : EnsIn w (.slice none 0 0) [] := ⟨none, 0, rfl, .inl rfl⟩
theorem GrowE.ens {w : World} {B : Nat} {v : Value} {L : List En} (h : GrowE w B v L) : EnsIn w v L := by
  obtain ⟨xs, h1, h2⟩ := h
  have hh := h1
  rcases h1.2 with ⟨e, h0⟩ | ⟨g, c, cur, e, _⟩
  · exact ⟨none, 0, by rw [e, h0], .inl h0⟩
  · subst e
    refine ⟨_, c, rfl, .inr ⟨g, 0, rfl, (World.ownsRow.lt hh g rfl).2, fun j hj => ?_⟩⟩
    obtain ⟨q1, x, c', q2, q3, _⟩ := h2 j hj
    refine ⟨x, c', ?_, ?_, q3⟩
    · rw [Nat.zero_add, World.ownsRow.cellAt hh (j * 2) (by omega)]; exact q1
    · rw [Nat.zero_add, World.ownsRow.cellAt hh (j * 2 + 1) (by omega)]; exact q2
theorem psAt_grown {w w' : World} {x : Option Addr} {l : List Am} {row : Option Nat} (h : PsAt w x l) (hg : w.grownBy w' row) (hr : l.length = 0 ∨ ∃ b off, x = some ⟨b, off, none⟩ ∧ row ≠ some b) : PsAt w' x l := by
  refine ⟨?_, h.2⟩
  rcases h.1 with h1 | ⟨b, off, e, hat⟩
  · exact .inl h1
  · rcases hr with h1 | ⟨b', off', e', hne⟩
    · exact .inl h1
    · rw [e] at e'
      cases e'
      exact .inr ⟨b, off, e, Nat.lt_of_lt_of_le hat.1 hg.size, fun i hi => ⟨hg.cell (hat.2 i hi).1 (fun q => hne q.symm), hg.cell (hat.2 i hi).2 (fun q => hne q.symm)⟩⟩
theorem infoEn : (Try.prog.info? 29).map (fun i => (i.zero, i.size, i.bytes)) = some (some (.agg #[.int .i64 0, .slice none 0 0]), 2, 32) := by kernel_rfl
theorem enth_last (L : List En) (x : En) : enth (L ++ [x]) L.length = x := by simp [enth]
theorem enth_old (L : List En) (x : En) {j : Nat} (h : j < L.length) : enth (L ++ [x]) j = enth L j := by simp [enth, List.getElem?_append_left h]
theorem run_appE (w : World) (ty : TypeId) (B : Nat) (v : Value) (L : List En) (h : GrowE w B v L) (g0 : Nat) (hg0 : g0 = w.heap.size) (d : Int) (x : Option Addr) (c : Nat) (ps : List Am) (hp : PsAt w x ps) (hx : ps.length = 0 ∨ ∃ b off, x = some ⟨b, off, none⟩ ∧ v.ownBlock ≠ some b) (hl : L.length ≤ 1000) (hB : B ≤ w.heap.size) :
    ∃ v' w', (Builtin.append_ #[22, 22] ty #[v, .slice (some ⟨g0, 0, none⟩) 1 1]).run Try.prog (w.alloc (.cells #[.int .i64 d, .slice x ps.length c] 29)) = .ok v' w' ∧ GrowE w' B v' (L ++ [⟨d, ps⟩]) ∧ Go.RowKit.Below B w w' := by
  subst hg0
  obtain ⟨i0, hi, hz0, hz1, hz2⟩ := info_parts infoEn
  have hbx := kbelow_box w (.cells #[.int .i64 d, .slice x ps.length c] 29)
  have hlt := h.lt
  obtain ⟨xs, h1, h2⟩ := h
  have h1' : (w.alloc (.cells #[.int .i64 d, .slice x ps.length c] 29)).ownsRow B 29 2 v L.length xs := by
    refine World.ownsRow.kept (row := none) h1 ⟨hbx.os, hbx.tape, hbx.output, hbx.size, fun k hk _ => hbx.block k hk⟩ ?_
    cases v.ownBlock with
    | none => exact .inl rfl
    | some k => exact .inr (Option.some_ne_none k)
  have hnews : ∀ j u, [Value.int .i64 d, .slice x ps.length c][j]? = some u → (w.alloc (.cells #[.int .i64 d, .slice x ps.length c] 29)).cell? ((⟨w.heap.size, 0, none⟩ : Addr).add j) = some u := by
    intro j u hu
    rw [Addr.add_lit, Nat.zero_add, World.cell?_alloc_at (w := w) _ _ _ _ rfl]
    match j with
    | 0 => simpa using hu
    | 1 => simpa using hu
    | j + 2 => simp at hu
  obtain ⟨v', w', hr, r2, r3, _, r5⟩ := run_append_own_at (P := Try.prog) _ B 22 ty 29 i0 _ 2 32 Try.underlying22 hi hz0 hz1 hz2 rfl (by decide) v L.length xs h1' ⟨w.heap.size, 0, none⟩ 1 1 [.int .i64 d, .slice x ps.length c] rfl hnews (by intro u hu; simp at hu; rcases hu with rfl | rfl <;> rfl) (by unfold maxLen; omega) (by omega) (Nat.le_trans hB hbx.size)
  have hxl : xs.length = L.length * 2 := h1.1
  have off : ∀ {b : Nat}, b < w.heap.size → v.ownBlock ≠ some b → v'.ownBlock ≠ some b := by
    intro b hb hne
    rcases r5 with e | e
    · rw [e]; exact hne
    · rw [e]
      intro q
      injection q with q
      simp at q
      omega
  have step : ∀ (y : Option Addr) (qs : List Am), PsAt w y qs → (qs.length = 0 ∨ ∃ b off, y = some ⟨b, off, none⟩ ∧ v.ownBlock ≠ some b) → PsAt w' y qs ∧ (qs.length = 0 ∨ ∃ b off, y = some ⟨b, off, none⟩ ∧ v'.ownBlock ≠ some b) := by
    intro y qs h3 h4
    refine ⟨psAt_grown (h3.below hbx) r3 h4, ?_⟩
    rcases h4 with h4 | ⟨b, o, e, h4⟩
    · exact .inl h4
    · rcases h3.1 with h5 | ⟨b', o', e', hat⟩
      · exact .inl h5
      · rw [e] at e'
        cases e'
        exact .inr ⟨b, o, e, off hat.1 h4⟩
  refine ⟨v', w', hr, ⟨xs ++ [.int .i64 d, .slice x ps.length c], ?_, fun j hj => ?_⟩, ?_⟩
  · rw [List.length_append]; exact r2
  · rw [List.length_append, List.length_singleton] at hj
    by_cases hjl : j < L.length
    · obtain ⟨q1, x1, c1, q2, q3, q4⟩ := h2 j hjl
      rw [enth_old L _ hjl, List.getElem?_append_left (by omega), List.getElem?_append_left (by omega)]
      exact ⟨q1, x1, c1, q2, step _ _ q3 q4⟩
    · have e : j = L.length := by omega
      subst e
      rw [enth_last, List.getElem?_append_right (by omega), List.getElem?_append_right (by omega), hxl, Nat.sub_self, show L.length * 2 + 1 - L.length * 2 = 1 by omega]
      exact ⟨rfl, x, c, rfl, step _ _ hp hx⟩
  · exact ((Below.refl B w).alloc hB _).trans ((Below.refl B _).grown r3 (Nat.le_trans hB hbx.size) fun k hk => (hlt k hk).1)
end Go.Proofs.Ytdgcfakbmhchdaa
