/-
  Promise V1: companies: how they lie in memory, how they are opened.
  Promise V1: what is wrong with a company.
  Promise V1: the walks of firstWrong, of checks of which each ends, of when, and of the searches through lists.
  Promise V1: the walks of place, signOf and hasStrange.
-/
import Derived.Test.YtkalfdjmklakdaaGreatDoorKK
import Derived.Test.YtkalfdjmklakdaaGreatDoorKP
import Derived.Test.YtkalfdjmklakdaaGreatDoorKQ
import Derived.Test.YtkalfdjmklakdaaGreatDoorKO
import Derived.Laws.Rows
import Derived.Test.YtkalfdjmklakdaaGreatDoorKI
import Derived.Test.YtkalfdjmklakdaaGreatDoorKM
import Derived.Lib.QuietBelow
import Derived.Test.YtkalfdjmklakdaaGreatDoorKE
namespace Go.Proofs.YtkalfdjmklakdaaGreatDoor
open Go.RowKit
structure Ps where
 num : Int
 name : ByteArray
 acc : ByteArray
 ins : List In
def psth (l : List Ps) (j : Nat) : Ps := l.getD j ⟨0, ⟨#[]⟩, ⟨#[]⟩, []⟩
def PsIs (w : World) (b o : Nat) (r : Ps) : Prop := ∃ (a : Option Addr) (c : Nat), w.cell? ⟨b, o, none⟩ = some (.int .i64 r.num) ∧ w.cell? ⟨b, o + 1, none⟩ = some (.string r.name) ∧ w.cell? ⟨b, o + 2, none⟩ = some (.string r.acc) ∧ w.cell? ⟨b, o + 3, none⟩ = some (.slice a r.ins.length c) ∧ CameI w a r.ins ∧ r.name.size ≤ maxLen ∧ r.acc.size ≤ maxLen ∧ r.ins.length ≤ maxLen
theorem PsIs.below {w w' : World} {b o : Nat} {r : Ps} (h : PsIs w b o r) (hb : Below w.heap.size w w') (hB : b < w.heap.size) : PsIs w' b o r := by
 obtain ⟨a, c, h1, h2, h3, h4, h5, h6⟩ := h
 exact ⟨a, c, (hb.cell (p := ⟨b, o, none⟩) hB).trans h1, (hb.cell (p := ⟨b, o + 1, none⟩) hB).trans h2, (hb.cell (p := ⟨b, o + 2, none⟩) hB).trans h3, (hb.cell (p := ⟨b, o + 3, none⟩) hB).trans h4, h5.below hb, h6⟩
def CamePs (w : World) (a : Option Addr) (l : List Ps) : Prop := l.length = 0 ∨ ∃ b off, a = some ⟨b, off, none⟩ ∧ b < w.heap.size ∧ ∀ j, j < l.length → PsIs w b (off + j * 4) (psth l j)
theorem CamePs.below {w w' : World} {a : Option Addr} {l : List Ps} (h : CamePs w a l) (hb : Below w.heap.size w w') : CamePs w' a l := by
 rcases h with h | ⟨b, off, rfl, h1, h2⟩
 ·exact .inl h
 ·exact .inr ⟨b, off, rfl, Nat.lt_of_lt_of_le h1 hb.size, fun j hj => (h2 j hj).below hb h1⟩
theorem CamePs.open {w : World} {a : Option Addr} {l : List Ps} (h : CamePs w a l) {n : Nat} (hn : l.length = n) (h0 : 0 < n) : ∃ b off, a = some ⟨b, off, none⟩ ∧ ∀ w', Below w.heap.size w w' → ∀ k, k < n → PsIs w' b (off + k * 4) (psth l k) := by
 rcases h with h | ⟨b, off, rfl, h1, h2⟩
 ·omega
 ·exact ⟨b, off, rfl, fun w' hb k hk => (h2 k (by omega)).below hb h1⟩
theorem hcells_pe : Tryz.prog.cellsOf 57 = 4 := by kernel_rfl
theorem hcells_ps : Tryz.prog.cellsOf 26 = 1 := by kernel_rfl
theorem hcells_sl : Tryz.prog.cellsOf 30 = 1 := by kernel_rfl
theorem hcells_en : Tryz.prog.cellsOf 31 = 1 := by kernel_rfl
theorem hcells_co : Tryz.prog.cellsOf 33 = 19 := by kernel_rfl
theorem hcells_run : Tryz.prog.cellsOf 29 = 8 := by kernel_rfl
theorem hcells_arr : Tryz.prog.cellsOf 27 = 7 := by kernel_rfl
theorem hcells_st : Tryz.prog.cellsOf 9 = 1 := by kernel_rfl
set_option maxRecDepth 100000 in
theorem open_pers {H : Type} {enc : TypeId × Value → H} {W : World} {fuel : Nat} {v : Value} {x : DataW H × List MemPlace}
 (h : DataW.trod enc Tryz.prog W 0 (fun _ => true) true fuel 26 [v] = some x) :
 ∃ (a : Option Addr) (len cap : Nat) (l : List Ps), v = .slice a len cap ∧ CamePs W a l ∧ l.length = len ∧ len ≤ maxLen := by
 rcases Deep.open_slice Tryz.underlying26 h with ⟨hcs, _⟩ | ⟨a', len, cap, m, n, D, Pl, hcs, hb, hl, hm, hmm, _, hx⟩
 ·simp at hcs
  exact ⟨none, 0, 0, [], hcs, .inl rfl, rfl, Nat.zero_le _⟩
 simp at hcs
 subst hcs
 have hmc : m = cap := by rw [hmm]; simp
 subst hmc
 have each : ∀ i, i < m → ∃ r : Ps, ∃ (a : Option Addr) (c : Nat), W.cell? (a'.add (i * 4)) = some (.int .i64 r.num) ∧ W.cell? (a'.add (i * 4 + 1)) = some (.string r.name) ∧ W.cell? (a'.add (i * 4 + 2)) = some (.string r.acc) ∧ W.cell? (a'.add (i * 4 + 3)) = some (.slice a r.ins.length c) ∧ CameI W a r.ins ∧ r.name.size ≤ maxLen ∧ r.acc.size ≤ maxLen ∧ r.ins.length ≤ maxLen := by
  intro i hi
  obtain ⟨cs', h1, h2⟩ := hx i hi
  rw [hcells_pe] at h1
  obtain ⟨_, hlen, hcell⟩ := World.cells?_some h1
  obtain ⟨xs, k, hk, hxy, _, hxl, hf⟩ := DataW.trod_struct Tryz.underlying57 h2
  match xs, hxl, cs', hlen with
  | [y0, y1, y2, y3], _, [v0, v1, v2, v3], _ =>
    have g0 := hf 0 _ rfl
    have g1 := hf 1 _ rfl
    have g2 := hf 2 _ rfl
    have g3 := hf 3 _ rfl
    simp [hcells_st, pcells_in, pcells_is] at g0 g1 g2 g3
    obtain ⟨n0, q0, _, _⟩ := DataW.trod_int Tryz.underlying3 g0
    obtain ⟨s1, q1, _, hs1⟩ := DataW.trod_string Tryz.underlying9 g1
    obtain ⟨s2, q2, _, hs2⟩ := DataW.trod_string Tryz.underlying9 g2
    obtain ⟨a, ln, c, l, rfl, hc, hn, hm⟩ := open_ins g3
    simp at q0 q1 q2
    subst q0 q1 q2
    subst hn
    have e0 := hcell 0 (by omega)
    have e1 := hcell 1 (by omega)
    have e2 := hcell 2 (by omega)
    have e3 := hcell 3 (by omega)
    rw [Deep.add_add] at e0 e1 e2 e3
    exact ⟨⟨n0, s1, s2, l⟩, a, c, by simpa using e0, by simpa using e1, by simpa using e2, by simpa using e3, hc, hs1, hs2, hm⟩
 haveI : Inhabited Ps := ⟨⟨0, ⟨#[]⟩, ⟨#[]⟩, []⟩⟩
 obtain ⟨q, hq⟩ := Deep.choose_lt each
 have hnth : ∀ j, j < len → psth ((List.range len).map q) j = q j := by
  intro j hj
  simp [psth, List.getD_eq_getElem?_getD, hj]
 refine ⟨some a', len, m, (List.range len).map q, rfl, ?_, by simp, by omega⟩
 by_cases h0 : len = 0
 ·exact .inl (by simp [h0])
 ·obtain ⟨b, off, spot⟩ := a'
  obtain ⟨_, _, hc, _⟩ := hq 0 (by omega)
  have hspot : spot = none := by simpa [Addr.add] using World.cell?_spot hc
  subst hspot
  refine .inr ⟨b, off, rfl, blt_of_cell hc, fun j hj => ?_⟩
  have hj' : j < len := by simpa using hj
  obtain ⟨aj, cj, h1, h2, h3, h4, h5⟩ := hq j (by omega)
  simp only [Addr.add_lit] at h1 h2 h3 h4
  rw [hnth j hj']
  exact ⟨aj, cj, by simpa [Nat.add_assoc] using h1, by simpa [Nat.add_assoc] using h2, by simpa [Nat.add_assoc] using h3, by simpa [Nat.add_assoc] using h4, h5⟩
structure Co where
 today : Int
 K : Int
 A : Int
 L : Int
 lns : List Ln
 tbs : List Tb
 prs : List Ps
 num : Int
 per : Int
 run : Nat → Int
 sls : List Sq.Slp.Sl
 jr : List Sq.Ldg.En
structure Ly where
 al : Option Addr
 nl : Nat
 cl : Nat
 at' : Option Addr
 nt : Nat
 ct : Nat
 ap : Option Addr
 np : Nat
 cp : Nat
 az : Option Addr
 nz : Nat
 cz : Nat
 aj : Option Addr
 nj : Nat
 cj : Nat
def coA (c : Co) (s : Ly) : Array Value := #[.int .i64 c.today, .int .i64 c.K, .int .i64 c.A, .int .i64 c.L, .slice s.al s.nl s.cl, .slice s.at' s.nt s.ct, .slice s.ap s.np s.cp, .int .i64 c.num, .int .i64 c.per, .int .i64 (c.run 0), .int .i64 (c.run 1), .int .i64 (c.run 2), .int .i64 (c.run 3), .int .i64 (c.run 4), .int .i64 (c.run 5), .int .i64 (c.run 6), .int .i64 (c.run 7), .slice s.az s.nz s.cz, .slice s.aj s.nj s.cj]
structure CameC (w : World) (s : Ly) (c : Co) : Prop where
 l : CameL w s.al c.lns
 t : CameT w s.at' c.tbs
 p : CamePs w s.ap c.prs
 z : Sq.Slp.CameS w s.az c.sls
 j : Sq.Ldg.CameE w s.aj c.jr
 nl : c.lns.length = s.nl
 nt : c.tbs.length = s.nt
 np : c.prs.length = s.np
 nz : c.sls.length = s.nz
 nj : c.jr.length = s.nj
 ml : s.nl ≤ maxLen
 mt : s.nt ≤ maxLen
 mp : s.np ≤ maxLen
 mz : s.nz ≤ maxLen
 mj : s.nj ≤ maxLen
 wf : (Lit.int .i64 c.today).wf = true ∧ (Lit.int .i64 c.K).wf = true ∧ (Lit.int .i64 c.A).wf = true ∧ (Lit.int .i64 c.L).wf = true ∧ (Lit.int .i64 c.num).wf = true ∧ (Lit.int .i64 c.per).wf = true ∧ Rn.WfR c.run
theorem CameC.below {w w' : World} {s : Ly} {c : Co} (h : CameC w s c) (hb : Below w.heap.size w w') : CameC w' s c :=
 ⟨h.l.below hb, h.t.below hb, h.p.below hb, h.z.below hb, h.j.below hb, h.nl, h.nt, h.np, h.nz, h.nj, h.ml, h.mt, h.mp, h.mz, h.mj, h.wf⟩
def plOf (c : Co) (r : Ps) : Pl := ⟨c.K, c.A, c.L, c.lns, c.tbs, r.ins⟩
theorem CameC.plan {w : World} {s : Ly} {c : Co} (h : CameC w s c) {a : Option Addr} {r : Ps} (hi : CameI w a r.ins) (hm : r.ins.length ≤ maxLen) : CameP w s.al s.at' a (plOf c r) :=
 ⟨h.l, h.t, hi, by rw [show (plOf c r).lns = c.lns from rfl, h.nl]; exact h.ml, by rw [show (plOf c r).tbs = c.tbs from rfl, h.nt]; exact h.mt, hm⟩
def CBox (w : World) (b : Nat) (c : Co) (s : Ly) : Prop := w.heap[b]? = some (.cells (coA c s) 33 (0, 0))
theorem CBox.lt {w : World} {b : Nat} {c : Co} {s : Ly} (h : CBox w b c s) : b < w.heap.size := by
 unfold CBox at h
 by_cases hb : b < w.heap.size
 ·exact hb
 ·rw [Array.getElem?_eq_none (by omega)] at h; cases h
theorem CBox.below {B : Nat} {w w' : World} {b : Nat} {c : Co} {s : Ly} (h : CBox w b c s) (hb : Below B w w') (hB : b < B) : CBox w' b c s := (hb.block b hB).trans h
theorem CBox.made (w : World) (c : Co) (s : Ly) : CBox (w.alloc (.cells (coA c s) 33)) w.heap.size c s := heap_alloc_new _ _
theorem coInfo (c : Co) (s : Ly) : (Tryz.prog.info? 33).map (·.size) = some (coA c s).size := by
 rw [show (coA c s).size = 19 from rfl]
 kernel_rfl
theorem CBox.cells {w : World} {b : Nat} {c : Co} {s : Ly} (h : CBox w b c s) : w.cell? ⟨b, 0, none⟩ = some (.int .i64 c.today) ∧ w.cell? ⟨b, 1, none⟩ = some (.int .i64 c.K) ∧ w.cell? ⟨b, 2, none⟩ = some (.int .i64 c.A) ∧ w.cell? ⟨b, 3, none⟩ = some (.int .i64 c.L) ∧ w.cell? ⟨b, 4, none⟩ = some (.slice s.al s.nl s.cl) ∧ w.cell? ⟨b, 5, none⟩ = some (.slice s.at' s.nt s.ct) ∧ w.cell? ⟨b, 6, none⟩ = some (.slice s.ap s.np s.cp) ∧ w.cell? ⟨b, 7, none⟩ = some (.int .i64 c.num) ∧ w.cell? ⟨b, 8, none⟩ = some (.int .i64 c.per) ∧ w.cell? ⟨b, 9, none⟩ = some (.int .i64 (c.run 0)) ∧ w.cell? ⟨b, 10, none⟩ = some (.int .i64 (c.run 1)) ∧ w.cell? ⟨b, 11, none⟩ = some (.int .i64 (c.run 2)) ∧ w.cell? ⟨b, 12, none⟩ = some (.int .i64 (c.run 3)) ∧ w.cell? ⟨b, 13, none⟩ = some (.int .i64 (c.run 4)) ∧ w.cell? ⟨b, 14, none⟩ = some (.int .i64 (c.run 5)) ∧ w.cell? ⟨b, 15, none⟩ = some (.int .i64 (c.run 6)) ∧ w.cell? ⟨b, 16, none⟩ = some (.int .i64 (c.run 7)) ∧ w.cell? ⟨b, 17, none⟩ = some (.slice s.az s.nz s.cz) ∧ w.cell? ⟨b, 18, none⟩ = some (.slice s.aj s.nj s.cj) := by
 have g : ∀ j, w.cell? ⟨b, j, none⟩ = (coA c s)[j]? := fun j => cell_of_row w b j _ _ _ h
 exact ⟨g 0, g 1, g 2, g 3, g 4, g 5, g 6, g 7, g 8, g 9, g 10, g 11, g 12, g 13, g 14, g 15, g 16, g 17, g 18⟩
set_option maxRecDepth 100000 in
theorem open_run8 {H : Type} {enc : TypeId × Value → H} {W : World} {fuel : Nat} {cs : List Value} {x : DataW H × List MemPlace} (hl : cs.length = 8)
 (h : DataW.trod enc Tryz.prog W 0 (fun _ => true) true fuel 29 cs = some x) : ∃ R : Nat → Int, cs = [.int .i64 (R 0), .int .i64 (R 1), .int .i64 (R 2), .int .i64 (R 3), .int .i64 (R 4), .int .i64 (R 5), .int .i64 (R 6), .int .i64 (R 7)] ∧ Rn.WfR R := by
 obtain ⟨ys, k, _, _, _, hyl, hf⟩ := DataW.trod_struct Tryz.underlying29 h
 match ys, hyl, cs, hl with
 | [y0, y1], _, [c0, c1, c2, c3, c4, c5, c6, c7], _ =>
   have h0 := hf 0 _ rfl
   have h1 := hf 1 _ rfl
   simp [pcells_in, hcells_arr] at h0 h1
   obtain ⟨n0, q0, _, w0⟩ := DataW.trod_int Tryz.underlying3 h0
   obtain ⟨xs, m, _, _, _, hxl, hall⟩ := DataW.trod_array Tryz.underlying27 h1
   rw [pcells_in] at hall
   match xs, hxl with
   | [z0, z1, z2, z3, z4, z5, z6], _ =>
     have g0 := hall 0 (by omega)
     have g1 := hall 1 (by omega)
     have g2 := hall 2 (by omega)
     have g3 := hall 3 (by omega)
     have g4 := hall 4 (by omega)
     have g5 := hall 5 (by omega)
     have g6 := hall 6 (by omega)
     simp at g0 g1 g2 g3 g4 g5 g6
     obtain ⟨n1, q1, _, w1⟩ := DataW.trod_int Tryz.underlying3 g0
     obtain ⟨n2, q2, _, w2⟩ := DataW.trod_int Tryz.underlying3 g1
     obtain ⟨n3, q3, _, w3⟩ := DataW.trod_int Tryz.underlying3 g2
     obtain ⟨n4, q4, _, w4⟩ := DataW.trod_int Tryz.underlying3 g3
     obtain ⟨n5, q5, _, w5⟩ := DataW.trod_int Tryz.underlying3 g4
     obtain ⟨n6, q6, _, w6⟩ := DataW.trod_int Tryz.underlying3 g5
     obtain ⟨n7, q7, _, w7⟩ := DataW.trod_int Tryz.underlying3 g6
     simp at q0 q1 q2 q3 q4 q5 q6 q7
     subst q0 q1 q2 q3 q4 q5 q6 q7
     refine ⟨fun j => nth [n0, n1, n2, n3, n4, n5, n6, n7] j, rfl, fun j hj => ?_⟩
     match j, hj with
     | 0, _ => exact w0
     | 1, _ => exact w1
     | 2, _ => exact w2
     | 3, _ => exact w3
     | 4, _ => exact w4
     | 5, _ => exact w5
     | 6, _ => exact w6
     | 7, _ => exact w7
set_option maxRecDepth 100000 in
set_option maxHeartbeats 1000000 in
theorem open_comp {H : Type} {enc : TypeId × Value → H} {W : World} {fuel : Nat} {cs : List Value} {x : DataW H × List MemPlace} (hl : cs.length = 19)
 (h : DataW.trod enc Tryz.prog W 0 (fun _ => true) true fuel 33 cs = some x) : ∃ (c : Co) (s : Ly), cs = (coA c s).toList ∧ CameC W s c := by
 obtain ⟨xs, k, hk, hxy, _, hxl, hf⟩ := DataW.trod_struct Tryz.underlying33 h
 match xs, hxl, cs, hl with
 | [y0, y1, y2, y3, y4, y5, y6, y7, y8, y9], _, [v0, v1, v2, v3, v4, v5, v6, v7, v8, v9, v10, v11, v12, v13, v14, v15, v16, v17, v18], _ =>
   have g0 := hf 0 _ rfl
   have g1 := hf 1 _ rfl
   have g2 := hf 2 _ rfl
   have g3 := hf 3 _ rfl
   have g4 := hf 4 _ rfl
   have g5 := hf 5 _ rfl
   have g6 := hf 6 _ rfl
   have g7 := hf 7 _ rfl
   have g8 := hf 8 _ rfl
   have g9 := hf 9 _ rfl
   simp [pcells_in, pcells_sc, pcells_ls, pcells_ts, hcells_ps, hcells_run, hcells_sl, hcells_en] at g0 g1 g2 g3 g4 g5 g6 g7 g8 g9
   obtain ⟨zs, k', _, _, _, hzl, hg⟩ := DataW.trod_struct Tryz.underlying23 g1
   match zs, hzl with
   | [z0, z1, z2], _ =>
     have e0 := hg 0 _ rfl
     have e1 := hg 1 _ rfl
     have e2 := hg 2 _ rfl
     simp [pcells_in] at e0 e1 e2
     obtain ⟨T, q0, _, w0⟩ := DataW.trod_int Tryz.underlying3 g0
     obtain ⟨K, q1, _, w1⟩ := DataW.trod_int Tryz.underlying3 e0
     obtain ⟨A, q2, _, w2⟩ := DataW.trod_int Tryz.underlying3 e1
     obtain ⟨L, q3, _, w3⟩ := DataW.trod_int Tryz.underlying3 e2
     obtain ⟨N, q4, _, w4⟩ := DataW.trod_int Tryz.underlying3 g5
     obtain ⟨P, q5, _, w5⟩ := DataW.trod_int Tryz.underlying3 g6
     obtain ⟨R, q6, w6⟩ := open_run8 (by rfl) g7
     simp at q0 q1 q2 q3 q4 q5 q6
     obtain ⟨r0, r1, r2, r3, r4, r5, r6, r7⟩ := q6
     subst q0 q1 q2 q3 q4 q5 r0 r1 r2 r3 r4 r5 r6 r7
     obtain ⟨al, nl, cl, ll, rfl, c1, n1, m1⟩ := open_lines g2
     obtain ⟨at', nt, ct, lt, rfl, c2, n2, m2⟩ := open_tbs g3
     obtain ⟨ap, np, cp, lp, rfl, c3, n3, m3⟩ := open_pers g4
     obtain ⟨az, nz, cz, lz, rfl, c4, n4, m4, _⟩ := Sq.Slp.openSls g8
     obtain ⟨aj, nj, cj, lj, rfl, c5, n5, m5, _⟩ := Sq.Ldg.openEns g9
     exact ⟨⟨T, K, A, L, ll, lt, lp, N, P, R, lz, lj⟩, ⟨al, nl, cl, at', nt, ct, ap, np, cp, az, nz, cz, aj, nj, cj⟩, rfl, ⟨c1, c2, c3, c4, c5, n1, n2, n3, n4, n5, m1, m2, m3, m4, m5, ⟨w0, w1, w2, w3, w4, w5, w6⟩⟩⟩
end Go.Proofs.YtkalfdjmklakdaaGreatDoor
namespace Go.Proofs.YtkalfdjmklakdaaGreatDoor
open Go.RowKit
def anyN (f : Nat → Bool) (n : Nat) : Bool := (List.range n).any f
theorem anyN_no {f : Nat → Bool} {n : Nat} (h : ∀ j, j < n → f j = false) : anyN f n = false := by
 unfold anyN
 rw [List.any_eq_false]
 intro j hj
 simp [h j (List.mem_range.1 hj)]
theorem anyN_yes {f : Nat → Bool} {n j : Nat} (hj : j < n) (h : f j = true) : anyN f n = true := by
 unfold anyN
 exact List.any_eq_true.2 ⟨j, List.mem_range.2 hj, h⟩
theorem anyN_of {f : Nat → Bool} {n : Nat} (h : anyN f n = false) : ∀ j, j < n → f j = false := by
 intro j hj
 cases e : f j
 ·rfl
 ·rw [anyN_yes hj e] at h; cases h
def IdxIs (f : Nat → Bool) (n : Nat) (v : Int) : Prop := (∃ k : Nat, k < n ∧ f k = true ∧ (∀ j, j < k → f j = false) ∧ v = (k : Int)) ∨ ((∀ j, j < n → f j = false) ∧ v = -1)
theorem IdxIs.neg {f : Nat → Bool} {n : Nat} {v : Int} (h : IdxIs f n v) : v < 0 ↔ anyN f n = false := by
 rcases h with ⟨k, h1, h2, _, rfl⟩ | ⟨h, rfl⟩
 ·rw [anyN_yes h1 h2]; simp
 ·rw [anyN_no h]; simp
theorem IdxIs.unique {f : Nat → Bool} {n : Nat} {v v' : Int} (h : IdxIs f n v) (h' : IdxIs f n v') : v = v' := by
 rcases h with ⟨k, h1, h2, h3, rfl⟩ | ⟨h, rfl⟩ <;> rcases h' with ⟨k', h1', h2', h3', rfl⟩ | ⟨h', rfl⟩
 ·by_cases e : k < k'
  ·rw [h3' k e] at h2; cases h2
  ·by_cases e' : k' < k
   ·rw [h3 k' e'] at h2'; cases h2'
   ·omega
 ·rw [h' k h1] at h2; cases h2
 ·rw [h k' h1'] at h2'; cases h2'
 ·rfl
structure Fs where
 pe : Pl → Int
 hp : ∀ p x, PlanIs p x → x = pe p
 hz : ∀ p, pe p = 0 → PlanIs p 0
 ae : Int → Int → Int → Int → Int
 ha : ∀ K A L k f t x, Cal.AtIs K A L k f t x → x = ae K A L k
theorem Fs.some : ∃ _ : Fs, True := by
 obtain ⟨pe, hp⟩ : ∃ pe : Pl → Int, ∀ p, (∀ x, PlanIs p x → x = pe p) ∧ (pe p = 0 → PlanIs p 0) := by
  refine Classical.axiomOfChoice (r := fun p y => (∀ x, PlanIs p x → x = y) ∧ (y = 0 → PlanIs p 0)) fun p => ?_
  by_cases h : ∃ x, PlanIs p x
  ·obtain ⟨x, hx⟩ := h
   exact ⟨x, fun y hy => hy.unique hx, fun e => by rw [← e]; exact hx⟩
  ·exact ⟨1, fun y hy => absurd ⟨y, hy⟩ h, fun e => absurd e (by decide)⟩
 obtain ⟨ae, ha⟩ : ∃ ae : Int × Int × Int × Int → Int, ∀ q f t x, Cal.AtIs q.1 q.2.1 q.2.2.1 q.2.2.2 f t x → x = ae q := by
  refine Classical.axiomOfChoice (r := fun (q : Int × Int × Int × Int) y => ∀ f t x, Cal.AtIs q.1 q.2.1 q.2.2.1 q.2.2.2 f t x → x = y) fun q => ?_
  by_cases h : ∃ f t x, Cal.AtIs q.1 q.2.1 q.2.2.1 q.2.2.2 f t x
  ·obtain ⟨f, t, x, hx⟩ := h
   exact ⟨x, fun f' t' y hy => (hy.unique hx).2.2⟩
  ·exact ⟨0, fun f t y hy => absurd ⟨f, t, y, hy⟩ h⟩
 exact ⟨⟨pe, fun p => (hp p).1, fun p => (hp p).2, fun K A L k => ae (K, A, L, k), fun K A L k f t x h => ha (K, A, L, k) f t x h⟩, trivial⟩
def ifE (b : Bool) (e : Int) : Int := if b = true then e else 0
theorem ifE_yes (e : Int) : ifE true e = e := rfl
theorem ifE_no (e : Int) : ifE false e = 0 := rfl
def fstL (l : List Int) : Int := firstE (fun j => l.getD j 0) l.length
def cashT : ByteArray := ⟨#[99, 97, 115, 104]⟩
def sameT (s t : ByteArray) : Bool := s.toList == t.toList
def liveB (l : List Ln) (s : ByteArray) : Bool := anyN (fun j => sameT (lnth l j).name s && !((lnth l j).kind == 4)) l.length
def strangeB (l : List Ln) (r : Sq.Slp.Sl) : Bool := anyN (fun j => !liveB l (Sq.anth r.tot j).name) r.tot.length
def perN (l : List Ps) (x : Int) : Bool := anyN (fun j => (psth l j).num == x) l.length
def upPs (l : List Ps) (n : Nat) : Bool := !anyN (fun j => decide ((psth l (j + 1)).num ≤ (psth l j).num)) (n - 1)
def payW (p : Ps) : Int := ifE (!(Cal.Bnk.accB p.acc && Cal.Bnk.nameB p.name)) 1
def oneL (r : Fs) (c : Co) (p : Ps) : List Int := [ifE (!Rn.perB p.num) 3, payW p, r.pe (plOf c p)]
def persE (r : Fs) (c : Co) : Int := if firstE (fun j => fstL (oneL r c (psth c.prs j))) c.prs.length = 0 then ifE (!upPs c.prs c.prs.length) 6 else firstE (fun j => fstL (oneL r c (psth c.prs j))) c.prs.length
def runL (r : Fs) (c : Co) : List Int := [ifE (!decide (0 ≤ c.num ∧ c.num ≤ 999)) 3, r.ae c.K c.A c.L c.per, Rn.runE c.run, ifE (decide (c.num = 0) && !decide (c.per = 0 ∧ c.run 0 = 0)) 4]
def slpL (c : Co) : List Int := [Sq.Slp.slE c.sls, ifE (anyN (fun j => !perN c.prs (Sq.Slp.snth c.sls j).per) c.sls.length) 5, ifE (anyN (fun j => strangeB c.lns (Sq.Slp.snth c.sls j)) c.sls.length) 5, ifE (anyN (fun j => decide (c.num < (Sq.Slp.snth c.sls j).run)) c.sls.length) 3]
def jrnL (c : Co) : List Int := [Sq.Ldg.jrE c.jr, ifE (decide (0 < c.jr.length) && decide (c.today < (Sq.Ldg.enth c.jr (c.jr.length - 1)).day)) 10]
def coEs (r : Fs) (c : Co) : List Int := [ifE (!Cal.dayB c.today) 3, ifE (decide (19 < c.lns.length ∨ 20 < c.prs.length)) 2, linesE c.lns, ifE (anyN (fun j => sameT (lnth c.lns j).name cashT) c.lns.length) 4, persE r c, fstL (runL r c), fstL (slpL c), fstL (jrnL c)]
def coE (r : Fs) (c : Co) : Int := fstL (coEs r c)
end Go.Proofs.YtkalfdjmklakdaaGreatDoor
namespace Go.Proofs.YtkalfdjmklakdaaGreatDoor
open Go.RowKit
theorem when_any (b : Bool) (x : Int) (w : World) : Calls Tryz.prog 21 #[.bool b, .int .i64 x] w fun e w' => e = .returned (.int .i64 (ifE b x)) ∧ w' = w := by
 cases b
 ·go_enter Tryz.func21, Tryz.ntmps21
  go_wp2_with fail
  go_ret
  exact ⟨rfl, rfl⟩
 ·go_enter Tryz.func21, Tryz.ntmps21
  go_wp2_with fail
  go_ret
  exact ⟨rfl, rfl⟩
set_option maxRecDepth 100000 in
set_option maxHeartbeats 1000000 in
theorem first_any (b n cap : Nat) (F : Nat → FuncId) (C : Nat → Array Value) (E : Nat → Int) (w : World) (hm : n ≤ 9223372036854775807) (hc : ∀ j, j < n → w.cell? ⟨b, j, none⟩ = some (.func (.func (F j)) #[] (C j)))
 (hF : ∀ j, j < n → ∀ w, (callFunc (F j) (C j)).run Tryz.prog w = .ok (.enter (F j) (C j)) w)
 (hdo : ∀ j, j < n → firstE E j = 0 → ∀ w', Below w.heap.size w w' → Calls Tryz.prog (F j) (C j) w' fun e w'' => e = .returned (.int .i64 (E j)) ∧ Below w'.heap.size w' w'') :
 Calls Tryz.prog 19 #[.slice (some ⟨b, 0, none⟩) n cap] w fun e w' => e = .returned (.int .i64 (firstE E n)) ∧ Below w.heap.size w w' := by
 have HC := Lib.hid hc
 have HF := Lib.hid hF
 have HD := Lib.hid hdo
 clear hc hF hdo
 go_enter Tryz.func19, Tryz.ntmps19
 go_wp2_with fail
 go_loopw [8] (fun i wr => ∃ k : Nat, k ≤ n ∧ i = .int .i64 k ∧ firstE E k = 0 ∧ Below w.heap.size w wr) (fun i _ => n - (intOf i).toNat)
 case atStart => exact ⟨0, Nat.zero_le _, rfl, rfl, Below.refl _ _⟩
 case round =>
  obtain ⟨k, hk, rfl, hz, hb⟩ := hrel
  have HZ := Lib.hid hz
  have HB := Lib.hid hb
  clear hz hb
  by_cases hlt : k < n
  ·have hlt' : (k : Int) < (n : Int) := by omega
   have hcl : wr.cell? ⟨b, k, none⟩ = some (.func (.func (F k)) #[] (C k)) := (HB.out.cell (p := ⟨b, k, none⟩) (blt_of_cell (HC.out k hlt))).trans (HC.out k hlt)
   have HK := Lib.hid (HD.out k hlt HZ.out wr HB.out)
   have HFK := Lib.hid (HF.out k hlt)
   have HS := Lib.hid (firstE_ok (f := E) HZ.out)
   have HER : Hid (E k ≠ 0 → firstE E n = E k) := fun h => firstE_err hlt HZ.out h
   obtain ⟨fk, hfk⟩ : ∃ fk, F k = fk := ⟨_, rfl⟩
   obtain ⟨ck, hck⟩ : ∃ ck, C k = ck := ⟨_, rfl⟩
   rw [hfk, hck] at hcl HK HFK
   obtain ⟨x, hx⟩ : ∃ x, E k = x := ⟨_, rfl⟩
   rw [hx] at HK HS HER
   clear hx hfk hck
   by_cases hx0 : x = 0
   ·subst hx0
    go_wp2_with fail
    rw [HFK.out, Oper.upon_enter]
    refine HK.out.mono ?_
    rintro e w1 ⟨rfl, hb1⟩
    have HB1 := Lib.hid (HB.out.trans (hb1.mono HB.out.size))
    clear hb1 hcl
    go_wp2_with fail
    go_roundw
    case rel => exact ⟨k + 1, by omega, by go_num, HS.out, HB1.out⟩
    case measure => simp [intOf]; omega
   ·have hx1 : (x != 0) = true := by simp [hx0]
    have HR := Lib.hid (HER.out hx0)
    clear hx0
    go_wp2_with fail
    rw [HFK.out, Oper.upon_enter]
    refine HK.out.mono ?_
    rintro e w1 ⟨rfl, hb1⟩
    have HB1 := Lib.hid (HB.out.trans (hb1.mono HB.out.size))
    clear hb1 hcl
    go_wp2_with fail
    go_ret
    exact ⟨kret_int HR.out.symm, HB1.out⟩
  ·have hkn : k = n := by omega
   subst hkn
   go_wp2_with fail
   go_ret
   exact ⟨kret_int HZ.out.symm, HB.out⟩
set_option maxRecDepth 100000 in
set_option maxHeartbeats 1000000 in
theorem idxLn (F : FuncId)  (f : Nat → Bool) (a : Option Addr) (n cap : Nat) (l : List Ln) (w : World) (hc : CameL w a l) (hn : l.length = n) (hm : n ≤ maxLen)
 (hF : ∀ v w, (callFunc F #[v ]).run Tryz.prog w = .ok (.enter F #[v ]) w)
 (hdo : ∀ k, k < n → ∀ (w' : World) (ax : Option Addr) (cx : Nat), Below w.heap.size w w' → KidsAt w' (lnth l k).ex ax → Calls Tryz.prog F #[.agg #[.int .i64 (lnth l k).kind, .string (lnth l k).name, .int .i64 (lnth l k).ex.k, .int .i64 (lnth l k).ex.n, .string (lnth l k).ex.s, .slice ax (lnth l k).ex.m cx] ] w' fun e w'' => e = .returned (.bool (f k)) ∧ Below w'.heap.size w' w'') :
 Calls Tryz.prog 71 #[.slice a n cap, .func (.func F) #[] #[]] w fun e w' => ∃ v : Int, e = .returned (.int .i64 v) ∧ IdxIs f n v ∧ Below w.heap.size w w' := by
 have hm' : n ≤ 9223372036854775807 := by unfold maxLen at hm; omega
 have HO := Lib.hid (fun h0 => hc.open hn h0)
 have HF := Lib.hid hF
 have HD := Lib.hid hdo
 clear hm hc hn hF hdo
 go_enter Tryz.func71, Tryz.ntmps71
 go_wp2_with fail
 go_loopw [8] (fun i wr => ∃ k : Nat, k ≤ n ∧ i = .int .i64 k ∧ (∀ j, j < k → f j = false) ∧ Below w.heap.size w wr) (fun i _ => n - (intOf i).toNat)
 case atStart => exact ⟨0, Nat.zero_le _, rfl, fun j hj => by omega, Below.refl _ _⟩
 case round =>
  obtain ⟨k, hk, rfl, hall, hb⟩ := hrel
  have HA := Lib.hid hall
  have HB := Lib.hid hb
  clear hall hb
  by_cases hlt : k < n
  ·have hlt' : (k : Int) < (n : Int) := by omega
   obtain ⟨b, off, rfl, hcell⟩ := HO.out (by omega)
   obtain ⟨ax, cx, ⟨x0, x1, x2, x3, x4, x5⟩, _, hp⟩ := hcell wr HB.out k hlt
   skip
   clear hcell
   have HK := Lib.hid (HD.out k hlt wr ax cx HB.out hp)
   obtain ⟨x, hx⟩ : ∃ x, f k = x := ⟨_, rfl⟩
   rw [hx] at HK
   have HX := Lib.hid hx
   clear hx hp
   cases x
   ·go_wp2_with fail
    rw [HF.out, Oper.upon_enter]
    refine HK.out.mono ?_
    rintro e w1 ⟨rfl, hb1⟩
    have HB1 := Lib.hid (HB.out.trans (hb1.mono HB.out.size))
    clear hb1
    go_wp2_with fail
    go_roundw
    case rel =>
     refine ⟨k + 1, by omega, by go_num, ?_, HB1.out⟩
     intro j hj
     by_cases e : j = k
     ·subst e; exact HX.out
     ·exact HA.out j (by omega)
    case measure => simp [intOf]; omega
   ·go_wp2_with fail
    rw [HF.out, Oper.upon_enter]
    refine HK.out.mono ?_
    rintro e w1 ⟨rfl, hb1⟩
    have HB1 := Lib.hid (HB.out.trans (hb1.mono HB.out.size))
    clear hb1
    go_wp2_with fail
    go_ret
    exact ⟨_, rfl, .inl ⟨k, hlt, HX.out, HA.out, rfl⟩, HB1.out⟩
  ·have hkn : k = n := by omega
   subst hkn
   go_wp2_with fail
   go_ret
   exact ⟨_, rfl, .inr ⟨HA.out, rfl⟩, HB.out⟩
set_option maxHeartbeats 1000000 in
theorem anyLn (F : FuncId)  (f : Nat → Bool) (a : Option Addr) (n cap : Nat) (l : List Ln) (w : World) (hc : CameL w a l) (hn : l.length = n) (hm : n ≤ maxLen)
 (hF : ∀ v w, (callFunc F #[v ]).run Tryz.prog w = .ok (.enter F #[v ]) w)
 (hdo : ∀ k, k < n → ∀ (w' : World) (ax : Option Addr) (cx : Nat), Below w.heap.size w w' → KidsAt w' (lnth l k).ex ax → Calls Tryz.prog F #[.agg #[.int .i64 (lnth l k).kind, .string (lnth l k).name, .int .i64 (lnth l k).ex.k, .int .i64 (lnth l k).ex.n, .string (lnth l k).ex.s, .slice ax (lnth l k).ex.m cx] ] w' fun e w'' => e = .returned (.bool (f k)) ∧ Below w'.heap.size w' w'') :
 Calls Tryz.prog 27 #[.slice a n cap, .func (.func F) #[] #[]] w fun e w' => e = .returned (.bool (anyN f n)) ∧ Below w.heap.size w w' := by
 have HI := Lib.hid (idxLn F  f a n cap l w hc hn hm hF hdo)
 clear hc hn hm hF hdo
 go_enter Tryz.func27, Tryz.ntmps27
 go_wp2_with fail
 refine HI.out.mono ?_
 rintro e w1 ⟨v, rfl, hv, hb⟩
 have HB := Lib.hid hb
 have HV := Lib.hid hv.neg
 clear hv hb
 cases hx : anyN f n
 ·have h0 : decide ((0 : Int) ≤ v) = false := decide_eq_false (by have := HV.out.2 hx; omega)
  go_wp2_with fail
  go_ret
  exact ⟨kret_bool hx.symm, HB.out⟩
 ·have h0 : decide ((0 : Int) ≤ v) = true := decide_eq_true (by have := HV.out; rw [hx] at this; simp at this; omega)
  go_wp2_with fail
  go_ret
  exact ⟨kret_bool hx.symm, HB.out⟩
set_option maxRecDepth 100000 in
set_option maxHeartbeats 1000000 in
theorem idxPs (F : FuncId) (q : Nat) (f : Nat → Bool) (a : Option Addr) (n cap : Nat) (l : List Ps) (w : World) (hc : CamePs w a l) (hn : l.length = n) (hm : n ≤ maxLen)
 (hF : ∀ v w, (callFunc F #[v , .pointer (some ⟨q, 0, none⟩)]).run Tryz.prog w = .ok (.enter F #[v , .pointer (some ⟨q, 0, none⟩)]) w)
 (hdo : ∀ k, k < n → ∀ (w' : World) (ax : Option Addr) (cx : Nat), Below w.heap.size w w' → CameI w' ax (psth l k).ins → Calls Tryz.prog F #[.agg #[.int .i64 (psth l k).num, .string (psth l k).name, .string (psth l k).acc, .slice ax (psth l k).ins.length cx] , .pointer (some ⟨q, 0, none⟩)] w' fun e w'' => e = .returned (.bool (f k)) ∧ Below w'.heap.size w' w'') :
 Calls Tryz.prog 146 #[.slice a n cap, .func (.func F) #[] #[.pointer (some ⟨q, 0, none⟩)]] w fun e w' => ∃ v : Int, e = .returned (.int .i64 v) ∧ IdxIs f n v ∧ Below w.heap.size w w' := by
 have hm' : n ≤ 9223372036854775807 := by unfold maxLen at hm; omega
 have HO := Lib.hid (fun h0 => hc.open hn h0)
 have HF := Lib.hid hF
 have HD := Lib.hid hdo
 clear hm hc hn hF hdo
 go_enter Tryz.func146, Tryz.ntmps146
 go_wp2_with fail
 go_loopw [8] (fun i wr => ∃ k : Nat, k ≤ n ∧ i = .int .i64 k ∧ (∀ j, j < k → f j = false) ∧ Below w.heap.size w wr) (fun i _ => n - (intOf i).toNat)
 case atStart => exact ⟨0, Nat.zero_le _, rfl, fun j hj => by omega, Below.refl _ _⟩
 case round =>
  obtain ⟨k, hk, rfl, hall, hb⟩ := hrel
  have HA := Lib.hid hall
  have HB := Lib.hid hb
  clear hall hb
  by_cases hlt : k < n
  ·have hlt' : (k : Int) < (n : Int) := by omega
   obtain ⟨b, off, rfl, hcell⟩ := HO.out (by omega)
   obtain ⟨ax, cx, x0, x1, x2, x3, hp, _⟩ := hcell wr HB.out k hlt
   skip
   clear hcell
   have HK := Lib.hid (HD.out k hlt wr ax cx HB.out hp)
   obtain ⟨x, hx⟩ : ∃ x, f k = x := ⟨_, rfl⟩
   rw [hx] at HK
   have HX := Lib.hid hx
   clear hx hp
   cases x
   ·go_wp2_with fail
    rw [HF.out, Oper.upon_enter]
    refine HK.out.mono ?_
    rintro e w1 ⟨rfl, hb1⟩
    have HB1 := Lib.hid (HB.out.trans (hb1.mono HB.out.size))
    clear hb1
    go_wp2_with fail
    go_roundw
    case rel =>
     refine ⟨k + 1, by omega, by go_num, ?_, HB1.out⟩
     intro j hj
     by_cases e : j = k
     ·subst e; exact HX.out
     ·exact HA.out j (by omega)
    case measure => simp [intOf]; omega
   ·go_wp2_with fail
    rw [HF.out, Oper.upon_enter]
    refine HK.out.mono ?_
    rintro e w1 ⟨rfl, hb1⟩
    have HB1 := Lib.hid (HB.out.trans (hb1.mono HB.out.size))
    clear hb1
    go_wp2_with fail
    go_ret
    exact ⟨_, rfl, .inl ⟨k, hlt, HX.out, HA.out, rfl⟩, HB1.out⟩
  ·have hkn : k = n := by omega
   subst hkn
   go_wp2_with fail
   go_ret
   exact ⟨_, rfl, .inr ⟨HA.out, rfl⟩, HB.out⟩
set_option maxRecDepth 100000 in
set_option maxHeartbeats 1000000 in
theorem idxSl (F : FuncId) (q : Nat) (f : Nat → Bool) (a : Option Addr) (n cap : Nat) (l : List Sq.Slp.Sl) (w : World) (hc : Sq.Slp.CameS w a l) (hn : l.length = n) (hm : n ≤ maxLen)
 (hF : ∀ v w, (callFunc F #[v , .pointer (some ⟨q, 0, none⟩)]).run Tryz.prog w = .ok (.enter F #[v , .pointer (some ⟨q, 0, none⟩)]) w)
 (hdo : ∀ k, k < n → ∀ (w' : World) (ax : Option Addr) (cx : Nat), Below w.heap.size w w' → Sq.Slp.PsAt w' ax (Sq.Slp.snth l k).tot → Calls Tryz.prog F #[.agg #[.int .i64 (Sq.Slp.snth l k).num, .int .i64 (Sq.Slp.snth l k).per, .int .i64 (Sq.Slp.snth l k).run, .bool (Sq.Slp.snth l k).gone, .slice ax (Sq.Slp.snth l k).tot.length cx] , .pointer (some ⟨q, 0, none⟩)] w' fun e w'' => e = .returned (.bool (f k)) ∧ Below w'.heap.size w' w'') :
 Calls Tryz.prog 127 #[.slice a n cap, .func (.func F) #[] #[.pointer (some ⟨q, 0, none⟩)]] w fun e w' => ∃ v : Int, e = .returned (.int .i64 v) ∧ IdxIs f n v ∧ Below w.heap.size w w' := by
 have hm' : n ≤ 9223372036854775807 := by unfold maxLen at hm; omega
 have HO := Lib.hid (fun h0 => hc.open hn h0)
 have HF := Lib.hid hF
 have HD := Lib.hid hdo
 clear hm hc hn hF hdo
 go_enter Tryz.func127, Tryz.ntmps127
 go_wp2_with fail
 go_loopw [8] (fun i wr => ∃ k : Nat, k ≤ n ∧ i = .int .i64 k ∧ (∀ j, j < k → f j = false) ∧ Below w.heap.size w wr) (fun i _ => n - (intOf i).toNat)
 case atStart => exact ⟨0, Nat.zero_le _, rfl, fun j hj => by omega, Below.refl _ _⟩
 case round =>
  obtain ⟨k, hk, rfl, hall, hb⟩ := hrel
  have HA := Lib.hid hall
  have HB := Lib.hid hb
  clear hall hb
  by_cases hlt : k < n
  ·have hlt' : (k : Int) < (n : Int) := by omega
   obtain ⟨b, off, rfl, hcell⟩ := HO.out (by omega)
   obtain ⟨⟨x0, x1, x2, x3⟩, ax, cx, x4, hp⟩ := hcell wr HB.out k hlt
   skip
   clear hcell
   have HK := Lib.hid (HD.out k hlt wr ax cx HB.out hp)
   obtain ⟨x, hx⟩ : ∃ x, f k = x := ⟨_, rfl⟩
   rw [hx] at HK
   have HX := Lib.hid hx
   clear hx hp
   cases x
   ·go_wp2_with fail
    rw [HF.out, Oper.upon_enter]
    refine HK.out.mono ?_
    rintro e w1 ⟨rfl, hb1⟩
    have HB1 := Lib.hid (HB.out.trans (hb1.mono HB.out.size))
    clear hb1
    go_wp2_with fail
    go_roundw
    case rel =>
     refine ⟨k + 1, by omega, by go_num, ?_, HB1.out⟩
     intro j hj
     by_cases e : j = k
     ·subst e; exact HX.out
     ·exact HA.out j (by omega)
    case measure => simp [intOf]; omega
   ·go_wp2_with fail
    rw [HF.out, Oper.upon_enter]
    refine HK.out.mono ?_
    rintro e w1 ⟨rfl, hb1⟩
    have HB1 := Lib.hid (HB.out.trans (hb1.mono HB.out.size))
    clear hb1
    go_wp2_with fail
    go_ret
    exact ⟨_, rfl, .inl ⟨k, hlt, HX.out, HA.out, rfl⟩, HB1.out⟩
  ·have hkn : k = n := by omega
   subst hkn
   go_wp2_with fail
   go_ret
   exact ⟨_, rfl, .inr ⟨HA.out, rfl⟩, HB.out⟩
set_option maxHeartbeats 1000000 in
theorem anySl (F : FuncId) (q : Nat) (f : Nat → Bool) (a : Option Addr) (n cap : Nat) (l : List Sq.Slp.Sl) (w : World) (hc : Sq.Slp.CameS w a l) (hn : l.length = n) (hm : n ≤ maxLen)
 (hF : ∀ v w, (callFunc F #[v , .pointer (some ⟨q, 0, none⟩)]).run Tryz.prog w = .ok (.enter F #[v , .pointer (some ⟨q, 0, none⟩)]) w)
 (hdo : ∀ k, k < n → ∀ (w' : World) (ax : Option Addr) (cx : Nat), Below w.heap.size w w' → Sq.Slp.PsAt w' ax (Sq.Slp.snth l k).tot → Calls Tryz.prog F #[.agg #[.int .i64 (Sq.Slp.snth l k).num, .int .i64 (Sq.Slp.snth l k).per, .int .i64 (Sq.Slp.snth l k).run, .bool (Sq.Slp.snth l k).gone, .slice ax (Sq.Slp.snth l k).tot.length cx] , .pointer (some ⟨q, 0, none⟩)] w' fun e w'' => e = .returned (.bool (f k)) ∧ Below w'.heap.size w' w'') :
 Calls Tryz.prog 92 #[.slice a n cap, .func (.func F) #[] #[.pointer (some ⟨q, 0, none⟩)]] w fun e w' => e = .returned (.bool (anyN f n)) ∧ Below w.heap.size w w' := by
 have HI := Lib.hid (idxSl F q f a n cap l w hc hn hm hF hdo)
 clear hc hn hm hF hdo
 go_enter Tryz.func92, Tryz.ntmps92
 go_wp2_with fail
 refine HI.out.mono ?_
 rintro e w1 ⟨v, rfl, hv, hb⟩
 have HB := Lib.hid hb
 have HV := Lib.hid hv.neg
 clear hv hb
 cases hx : anyN f n
 ·have h0 : decide ((0 : Int) ≤ v) = false := decide_eq_false (by have := HV.out.2 hx; omega)
  go_wp2_with fail
  go_ret
  exact ⟨kret_bool hx.symm, HB.out⟩
 ·have h0 : decide ((0 : Int) ≤ v) = true := decide_eq_true (by have := HV.out; rw [hx] at this; simp at this; omega)
  go_wp2_with fail
  go_ret
  exact ⟨kret_bool hx.symm, HB.out⟩
set_option maxRecDepth 100000 in
set_option maxHeartbeats 1000000 in
theorem idxAm (F : FuncId) (q : Nat) (f : Nat → Bool) (a : Option Addr) (n cap : Nat) (l : List Sq.Am) (w : World) (hc : Sq.CameA w a l) (hn : l.length = n) (hm : n ≤ maxLen)
 (hF : ∀ v w, (callFunc F #[v , .pointer (some ⟨q, 0, none⟩)]).run Tryz.prog w = .ok (.enter F #[v , .pointer (some ⟨q, 0, none⟩)]) w)
 (hdo : ∀ k, k < n → ∀ (w' : World) , Below w.heap.size w w' → True → Calls Tryz.prog F #[.agg #[.string (Sq.anth l k).name, .int .i64 (Sq.anth l k).mon] , .pointer (some ⟨q, 0, none⟩)] w' fun e w'' => e = .returned (.bool (f k)) ∧ Below w'.heap.size w' w'') :
 Calls Tryz.prog 191 #[.slice a n cap, .func (.func F) #[] #[.pointer (some ⟨q, 0, none⟩)]] w fun e w' => ∃ v : Int, e = .returned (.int .i64 v) ∧ IdxIs f n v ∧ Below w.heap.size w w' := by
 have hm' : n ≤ 9223372036854775807 := by unfold maxLen at hm; omega
 have HO := Lib.hid (fun h0 => hc.open hn h0)
 have HF := Lib.hid hF
 have HD := Lib.hid hdo
 clear hm hc hn hF hdo
 go_enter Tryz.func191, Tryz.ntmps191
 go_wp2_with fail
 go_loopw [8] (fun i wr => ∃ k : Nat, k ≤ n ∧ i = .int .i64 k ∧ (∀ j, j < k → f j = false) ∧ Below w.heap.size w wr) (fun i _ => n - (intOf i).toNat)
 case atStart => exact ⟨0, Nat.zero_le _, rfl, fun j hj => by omega, Below.refl _ _⟩
 case round =>
  obtain ⟨k, hk, rfl, hall, hb⟩ := hrel
  have HA := Lib.hid hall
  have HB := Lib.hid hb
  clear hall hb
  by_cases hlt : k < n
  ·have hlt' : (k : Int) < (n : Int) := by omega
   obtain ⟨b, off, rfl, hcell⟩ := HO.out (by omega)
   obtain ⟨x0, x1⟩ := hcell wr HB.out k hlt
   have hp : True := trivial
   clear hcell
   have HK := Lib.hid (HD.out k hlt wr  HB.out hp)
   obtain ⟨x, hx⟩ : ∃ x, f k = x := ⟨_, rfl⟩
   rw [hx] at HK
   have HX := Lib.hid hx
   clear hx hp
   cases x
   ·go_wp2_with fail
    rw [HF.out, Oper.upon_enter]
    refine HK.out.mono ?_
    rintro e w1 ⟨rfl, hb1⟩
    have HB1 := Lib.hid (HB.out.trans (hb1.mono HB.out.size))
    clear hb1
    go_wp2_with fail
    go_roundw
    case rel =>
     refine ⟨k + 1, by omega, by go_num, ?_, HB1.out⟩
     intro j hj
     by_cases e : j = k
     ·subst e; exact HX.out
     ·exact HA.out j (by omega)
    case measure => simp [intOf]; omega
   ·go_wp2_with fail
    rw [HF.out, Oper.upon_enter]
    refine HK.out.mono ?_
    rintro e w1 ⟨rfl, hb1⟩
    have HB1 := Lib.hid (HB.out.trans (hb1.mono HB.out.size))
    clear hb1
    go_wp2_with fail
    go_ret
    exact ⟨_, rfl, .inl ⟨k, hlt, HX.out, HA.out, rfl⟩, HB1.out⟩
  ·have hkn : k = n := by omega
   subst hkn
   go_wp2_with fail
   go_ret
   exact ⟨_, rfl, .inr ⟨HA.out, rfl⟩, HB.out⟩
set_option maxHeartbeats 1000000 in
theorem anyAm (F : FuncId) (q : Nat) (f : Nat → Bool) (a : Option Addr) (n cap : Nat) (l : List Sq.Am) (w : World) (hc : Sq.CameA w a l) (hn : l.length = n) (hm : n ≤ maxLen)
 (hF : ∀ v w, (callFunc F #[v , .pointer (some ⟨q, 0, none⟩)]).run Tryz.prog w = .ok (.enter F #[v , .pointer (some ⟨q, 0, none⟩)]) w)
 (hdo : ∀ k, k < n → ∀ (w' : World) , Below w.heap.size w w' → True → Calls Tryz.prog F #[.agg #[.string (Sq.anth l k).name, .int .i64 (Sq.anth l k).mon] , .pointer (some ⟨q, 0, none⟩)] w' fun e w'' => e = .returned (.bool (f k)) ∧ Below w'.heap.size w' w'') :
 Calls Tryz.prog 148 #[.slice a n cap, .func (.func F) #[] #[.pointer (some ⟨q, 0, none⟩)]] w fun e w' => e = .returned (.bool (anyN f n)) ∧ Below w.heap.size w w' := by
 have HI := Lib.hid (idxAm F q f a n cap l w hc hn hm hF hdo)
 clear hc hn hm hF hdo
 go_enter Tryz.func148, Tryz.ntmps148
 go_wp2_with fail
 refine HI.out.mono ?_
 rintro e w1 ⟨v, rfl, hv, hb⟩
 have HB := Lib.hid hb
 have HV := Lib.hid hv.neg
 clear hv hb
 cases hx : anyN f n
 ·have h0 : decide ((0 : Int) ≤ v) = false := decide_eq_false (by have := HV.out.2 hx; omega)
  go_wp2_with fail
  go_ret
  exact ⟨kret_bool hx.symm, HB.out⟩
 ·have h0 : decide ((0 : Int) ≤ v) = true := decide_eq_true (by have := HV.out; rw [hx] at this; simp at this; omega)
  go_wp2_with fail
  go_ret
  exact ⟨kret_bool hx.symm, HB.out⟩
end Go.Proofs.YtkalfdjmklakdaaGreatDoor
namespace Go.Proofs.YtkalfdjmklakdaaGreatDoor
open Go.RowKit
set_option maxHeartbeats 1000000 in
theorem isNum_any (x y : Int) (s t : ByteArray) (a : Option Addr) (n c q : Nat) (w : World) (hq : w.cell? ⟨q, 0, none⟩ = some (.int .i64 y)) :
 Calls Tryz.prog 147 #[.agg #[.int .i64 x, .string s, .string t, .slice a n c], .pointer (some ⟨q, 0, none⟩)] w fun e w' => e = .returned (.bool (x == y)) ∧ Below w.heap.size w w' := by
 have hq' : (w.alloc (.cells #[.int .i64 x, .string s, .string t, .slice a n c] 57)).cell? ⟨q, 0, none⟩ = some (.int .i64 y) := ((kbelow_box w _).cell (p := ⟨q, 0, none⟩) (blt_of_cell hq)).trans hq
 go_enter Tryz.func147, Tryz.ntmps147
 go_wp2_with fail
 go_ret
 exact ⟨rfl, kbelow_box _ _⟩
set_option maxRecDepth 100000 in
set_option maxHeartbeats 1000000 in
theorem place_any (a : Option Addr) (n cap : Nat) (l : List Ps) (x : Int) (w : World) (hc : CamePs w a l) (hn : l.length = n) (hm : n ≤ maxLen) :
 Calls Tryz.prog 85 #[.slice a n cap, .int .i64 x] w fun e w' => ∃ v : Int, e = .returned (.int .i64 v) ∧ IdxIs (fun j => (psth l j).num == x) n v ∧ Below w.heap.size w w' := by
 have HB0 := Lib.hid (kbelow_box w (.cells #[.int .i64 x] 3))
 have HI := Lib.hid (idxPs 147 w.heap.size (fun j => (psth l j).num == x) a n cap l (w.alloc (.cells #[.int .i64 x] 3)) (hc.below HB0.out) hn hm (fun _ _ => by simp [go_sem]) (fun k _ w' ax cx hb _ => isNum_any _ _ _ _ _ _ _ _ _ ((hb.cell (p := ⟨w.heap.size, 0, none⟩) (by simp)).trans (by simp))))
 clear hc hn hm
 go_enter Tryz.func85, Tryz.ntmps85
 go_wp2_with fail
 refine HI.out.mono ?_
 rintro e w1 ⟨v, rfl, hv, hb⟩
 have HV := Lib.hid hv
 have HB1 := Lib.hid (HB0.out.trans (hb.mono HB0.out.size))
 clear hv hb
 go_wp2_with fail
 go_ret
 exact ⟨_, rfl, HV.out, HB1.out⟩
def liveF (l : List Ln) (s : ByteArray) (j : Nat) : Bool := sameT (lnth l j).name s && !((lnth l j).kind == 4)
def earnF (l : List Ln) (s : ByteArray) (j : Nat) : Bool := sameT (lnth l j).name s && (lnth l j).kind == 1
def sgnL (l : List Ln) (s : ByteArray) : Int := if anyN (earnF l s) l.length = true then 1 else if liveB l s = true then -1 else 0
theorem anyN_succ (f : Nat → Bool) (n : Nat) : anyN f (n + 1) = (anyN f n || f n) := by simp [anyN, List.range_succ]
theorem sgnL_zero (l : List Ln) (s : ByteArray) : (sgnL l s == 0) = !liveB l s := by
 unfold sgnL
 by_cases h : anyN (earnF l s) l.length = true
 ·rw [if_pos h]
  unfold anyN at h
  obtain ⟨j, hj, he⟩ := List.any_eq_true.1 h
  have hl : liveB l s = true := anyN_yes (j := j) (List.mem_range.1 hj) (by
   unfold earnF at he
   rw [Bool.and_eq_true, beq_iff_eq] at he
   rw [he.1, he.2]; rfl)
  rw [hl]; rfl
 ·rw [if_neg h]
  cases liveB l s <;> rfl
set_option maxRecDepth 100000 in
set_option maxHeartbeats 2000000 in
theorem signOf_any (a : Option Addr) (n cap : Nat) (l : List Ln) (s : ByteArray) (w : World) (hc : CameL w a l) (hn : l.length = n) (hm : n ≤ maxLen) :
 Calls Tryz.prog 150 #[.slice a n cap, .string s] w fun e w' => e = .returned (.int .i64 (sgnL l s)) ∧ Below w.heap.size w w' := by
 have hm' : n ≤ 9223372036854775807 := by unfold maxLen at hm; omega
 have HO := Lib.hid (fun h0 => hc.open hn h0)
 have HN := Lib.hid hn
 clear hm hc hn
 go_enter Tryz.func150, Tryz.ntmps150
 go_wp2_with fail
 go_loopw [5, 10] (fun sg i wr => ∃ k : Nat, k ≤ n ∧ sg = .int .i64 (if anyN (liveF l s) k = true then -1 else 0) ∧ i = .int .i64 k ∧ anyN (earnF l s) k = false ∧ True ∧ Below w.heap.size w wr) (fun _ i _ => n - (intOf i).toNat)
 case atStart => exact ⟨0, Nat.zero_le _, rfl, rfl, rfl, trivial, Below.refl _ _⟩
 case round =>
  obtain ⟨k, hk, rfl, rfl, he, -, hb⟩ := hrel
  have HE := Lib.hid he
  have HB := Lib.hid hb
  clear he hb
  by_cases hlt : k < n
  ·have hlt' : (k : Int) < (n : Int) := by omega
   obtain ⟨b, off, rfl, hcell⟩ := HO.out (by omega)
   obtain ⟨ax, cx, ⟨x0, x1, x2, x3, x4, x5⟩, _, _⟩ := hcell wr HB.out k hlt
   clear hcell
   have HBX := Lib.hid (HB.out.trans (Below.mono (B := wr.heap.size) (kbelow_box wr (.cells #[.int .i64 (lnth l k).kind, .string (lnth l k).name, .int .i64 (lnth l k).ex.k, .int .i64 (lnth l k).ex.n, .string (lnth l k).ex.s, .slice ax (lnth l k).ex.m cx] 73)) HB.out.size))
   have HE0 : Hid (anyN (earnF l s) (k + 1) = earnF l s k) := by unfold Hid; rw [anyN_succ, HE.out, Bool.false_or]
   have HL0 : Hid (anyN (liveF l s) (k + 1) = (anyN (liveF l s) k || liveF l s k)) := anyN_succ _ _
   obtain ⟨sg, hsg⟩ : ∃ sg, anyN (liveF l s) k = sg := ⟨_, rfl⟩
   rw [hsg] at HL0 ⊢
   clear hsg
   cases hsn : ((lnth l k).name.toList == s.toList)
   ·have hsn' : ((lnth l k).name.toList != s.toList) = true := by simp only [bne, hsn]; rfl
    have HE1 : Hid (anyN (earnF l s) (k + 1) = false) := by unfold Hid; rw [HE0.out]; unfold earnF sameT; rw [hsn]; rfl
    have HL1 : Hid (anyN (liveF l s) (k + 1) = sg) := by unfold Hid; rw [HL0.out]; unfold liveF sameT; rw [hsn]; simp
    obtain ⟨z, hz⟩ : ∃ z : Int, (if sg = true then (-1 : Int) else 0) = z := ⟨_, rfl⟩
    have HZ := Lib.hid hz
    rw [hz]
    clear hz
    go_wp2_with fail
    go_roundw
    case rel => exact ⟨k + 1, by omega, by rw [HL1.out, HZ.out], by go_num, HE1.out, trivial, HBX.out⟩
    case measure => simp [intOf]; omega
   ·have hsn' : ((lnth l k).name.toList != s.toList) = false := by simp only [bne, hsn]; rfl
    by_cases h4 : (lnth l k).kind = 4
    ·have HE1 : Hid (anyN (earnF l s) (k + 1) = false) := by unfold Hid; rw [HE0.out]; unfold earnF; rw [h4]; simp
     have HL1 : Hid (anyN (liveF l s) (k + 1) = sg) := by unfold Hid; rw [HL0.out]; unfold liveF; rw [h4]; simp
     rw [h4] at x0 HBX
     clear h4
     obtain ⟨z, hz⟩ : ∃ z : Int, (if sg = true then (-1 : Int) else 0) = z := ⟨_, rfl⟩
     have HZ := Lib.hid hz
     rw [hz]
     clear hz
     go_wp2_with fail
     go_roundw
     case rel => exact ⟨k + 1, by omega, by rw [HL1.out, HZ.out], by go_num, HE1.out, trivial, HBX.out⟩
     case measure => simp [intOf]; omega
    ·have h4' : ((lnth l k).kind == 4) = false := by simp [h4]
     by_cases h1 : (lnth l k).kind = 1
     ·have HR : Hid (sgnL l s = 1) := by
       unfold Hid sgnL
       rw [if_pos (anyN_yes (j := k) (by rw [HN.out]; exact hlt) (by unfold earnF sameT; rw [hsn, h1]; rfl))]
      rw [h1] at x0 HBX
      clear h1 h4 h4'
      obtain ⟨z, hz⟩ : ∃ z : Int, (if sg = true then (-1 : Int) else 0) = z := ⟨_, rfl⟩
      rw [hz]
      clear hz
      go_wp2_with fail
      go_ret
      exact ⟨kret_int HR.out.symm, HBX.out⟩
     ·have h1' : ((lnth l k).kind == 1) = false := by simp [h1]
      have HE1 : Hid (anyN (earnF l s) (k + 1) = false) := by unfold Hid; rw [HE0.out]; unfold earnF; rw [h1']; simp
      have HL1 : Hid (anyN (liveF l s) (k + 1) = true) := by unfold Hid; rw [HL0.out]; unfold liveF sameT; rw [hsn, h4']; simp
      clear h1 h4
      obtain ⟨z, hz⟩ : ∃ z : Int, (if sg = true then (-1 : Int) else 0) = z := ⟨_, rfl⟩
      rw [hz]
      clear hz
      go_wp2_with fail
      go_roundw
      case rel => exact ⟨k + 1, by omega, by rw [HL1.out]; rfl, by go_num, HE1.out, trivial, HBX.out⟩
      case measure => simp [intOf]; omega
  ·have hkn : k = n := by omega
   subst hkn
   have HR : Hid (sgnL l s = if anyN (liveF l s) k = true then -1 else 0) := by
    unfold Hid sgnL liveB
    rw [HN.out, HE.out]; rfl
   obtain ⟨z, hz⟩ : ∃ z : Int, (if anyN (liveF l s) k = true then (-1 : Int) else 0) = z := ⟨_, rfl⟩
   rw [hz] at HR ⊢
   clear hz
   go_wp2_with fail
   go_ret
   exact ⟨kret_int HR.out.symm, HB.out⟩
set_option maxRecDepth 100000 in
set_option maxHeartbeats 1000000 in
theorem isStrange_any (t : ByteArray) (m : Int) (q : Nat) (a : Option Addr) (n cap : Nat) (l : List Ln) (w : World) (hc : CameL w a l) (hn : l.length = n) (hm : n ≤ maxLen) (hq : w.cell? ⟨q, 0, none⟩ = some (.slice a n cap)) :
 Calls Tryz.prog 149 #[.agg #[.string t, .int .i64 m], .pointer (some ⟨q, 0, none⟩)] w fun e w' => e = .returned (.bool (!liveB l t)) ∧ Below w.heap.size w w' := by
 have HB0 := Lib.hid (kbelow_box w (.cells #[.string t, .int .i64 m] 87))
 have hq' : (w.alloc (.cells #[.string t, .int .i64 m] 87)).cell? ⟨q, 0, none⟩ = some (.slice a n cap) := (HB0.out.cell (p := ⟨q, 0, none⟩) (blt_of_cell hq)).trans hq
 have HC := Lib.hid (hc.below HB0.out)
 have HN := Lib.hid hn
 have HM := Lib.hid hm
 have HZ := Lib.hid (sgnL_zero l t)
 clear hc hn hm hq
 go_enter Tryz.func149, Tryz.ntmps149
 go_wp2_with fail
 refine (signOf_any a n cap l t _ HC.out HN.out HM.out).mono ?_
 rintro e w1 ⟨rfl, hb1⟩
 have HB1 := Lib.hid (HB0.out.trans (hb1.mono HB0.out.size))
 clear hb1 hq'
 go_wp2_with fail
 go_ret
 exact ⟨kret_bool HZ.out, HB1.out⟩
set_option maxRecDepth 100000 in
set_option maxHeartbeats 1000000 in
theorem hasStrange_any (a : Option Addr) (n cap : Nat) (l : List Ln) (r : Sq.Slp.Sl) (ax : Option Addr) (cx : Nat) (w : World) (hc : CameL w a l) (hn : l.length = n) (hm : n ≤ maxLen) (hp : Sq.Slp.PsAt w ax r.tot) :
 Calls Tryz.prog 87 #[.slice a n cap, .agg #[.int .i64 r.num, .int .i64 r.per, .int .i64 r.run, .bool r.gone, .slice ax r.tot.length cx]] w fun e w' => e = .returned (.bool (strangeB l r)) ∧ Below w.heap.size w w' := by
 have HB0 := Lib.hid ((kbelow_box w (.cells #[.slice a n cap] 24)).alloc (by simp) (.cells #[.int .i64 r.num, .int .i64 r.per, .int .i64 r.run, .bool r.gone, .slice ax r.tot.length cx] 84))
 have HI := Lib.hid (anyAm 149 w.heap.size (fun j => !liveB l (Sq.anth r.tot j).name) ax r.tot.length cx r.tot ((w.alloc (.cells #[.slice a n cap] 24)).alloc (.cells #[.int .i64 r.num, .int .i64 r.per, .int .i64 r.run, .bool r.gone, .slice ax r.tot.length cx] 84)) (hp.1.below HB0.out) rfl hp.2.2 (fun _ _ => by simp [go_sem]) (fun k _ w' hb _ => isStrange_any _ _ _ a n cap l w' (hc.below (HB0.out.trans (hb.mono HB0.out.size))) hn hm ((hb.cell (p := ⟨w.heap.size, 0, none⟩) (by simp; omega)).trans (by simp))))
 clear hc hn hm hp
 obtain ⟨n', hn'⟩ : ∃ n', r.tot.length = n' := ⟨_, rfl⟩
 have HST : Hid (strangeB l r = anyN (fun j => !liveB l (Sq.anth r.tot j).name) n') := by unfold Hid strangeB; rw [hn']
 rw [hn'] at HB0 HI ⊢
 clear hn'
 go_enter Tryz.func87, Tryz.ntmps87
 go_wp2_with fail
 refine HI.out.mono ?_
 rintro e w1 ⟨rfl, hb1⟩
 have HB1 := Lib.hid (HB0.out.trans (hb1.mono HB0.out.size))
 clear hb1
 go_wp2_with fail
 go_ret
 exact ⟨kret_bool HST.out.symm, HB1.out⟩
end Go.Proofs.YtkalfdjmklakdaaGreatDoor
