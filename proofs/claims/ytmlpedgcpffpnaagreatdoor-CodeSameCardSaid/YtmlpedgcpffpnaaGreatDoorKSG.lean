/-
  Promise I1: a row of ints of the call's own that is appended to inside a region that draws.
  Promise I1: what lines come to, up to the first that gives up: the walk of value.Lines' closure.
  Promise I1: what lines come to: the walk of value.Lines.
-/
import Derived.Test.YtmlpedgcpffpnaaGreatDoorKSE
import Derived.Maps.AppendAt
import Derived.Test.YtmlpedgcpffpnaaGreatDoorKSF
import Derived.Test.YtmlpedgcpffpnaaGreatDoorKS9
import Derived.Deep.RegionHeldLaw
import Derived.Lib.OwnBridge
import Derived.BigQuiet
namespace Go.Proofs.YtmlpedgcpffpnaaGreatDoor
open Go.RowKit
theorem run_app_i (w : World) (ty : TypeId) (B : Nat) (v : Value) (l : List Int) (hown : Grow w B v l) (b c : Nat) (z : Int) (h0 : w.cell? ⟨b, 0, none⟩ = some (.int .i64 z)) (hb : l.length ≤ 1000) (hB : B ≤ w.heap.size) :
 ∃ v' w', (Builtin.append_ #[35, 35] ty #[v, .slice (some ⟨b, 0, none⟩) 1 c]).run Tryz.prog w = .ok v' w' ∧ Grow w' B v' (l ++ [z]) ∧ w.grownBy w' v.ownBlock := by
 obtain ⟨i0, hi, hz0, hz1, hz2⟩ := info_parts info_i
 have hnews : ∀ j u, [Value.int .i64 z][j]? = some u → w.cell? ((⟨b, 0, none⟩ : Addr).add j) = some u := by
  intro j u hu
  rw [Addr.add_lit, Nat.zero_add]
  match j with
  | 0 => simp at hu; subst hu; exact h0
  | j + 1 => simp at hu
 obtain ⟨v', w', hr, h2, h3, _, h5⟩ := run_append_own_at (P := Tryz.prog) w B 35 ty 3 i0 _ 1 8 Tryz.underlying35 hi hz0 hz1 hz2 rfl (by decide) v l.length (l.map (Value.int .i64)) hown ⟨b, 0, none⟩ 1 c [.int .i64 z] rfl hnews (by simp [Value.oneCell']) (by unfold maxLen; omega) (by omega) hB
 refine ⟨v', w', hr, ?_, h3⟩
 unfold Grow
 rw [List.length_append, List.map_append]
 simpa using h2
theorem step_app_i {ops : Array Oper} {o : Oper} {a : Act} {K : Act → World → Prop} {Q : Exit → Act → World → Prop} {E : Prop} (w : World) (hgd : o.guard = none) (s x : Operand)
 (ho : o.op = .call { callee := .builtin .append, args := #[s, x], argTypes := #[35, 35] })
 (B : Nat) (v : Value) (l : List Int) (hs : a.eval s = v) (hown : Grow w B v l) (b c : Nat) (z : Int) (hx : a.eval x = .slice (some ⟨b, 0, none⟩) 1 c) (h0 : w.cell? ⟨b, 0, none⟩ = some (.int .i64 z))
 (hb : l.length ≤ 1000) (hB : B ≤ w.heap.size)
 (h : ∀ v' w', Grow w' B v' (l ++ [z]) → w.grownBy w' v.ownBlock → K (a.put o.dst v') w') :
 if Region.wanted o (yielded ops a.tmps) = true then Oper.wp Tryz.prog o a w K Q else E := by
 have hw : Region.wanted o (yielded ops a.tmps) = true := by simp [Region.wanted, hgd]
 rw [if_pos hw]
 obtain ⟨v', w', hr, h2, h3⟩ := run_app_i w o.type B v l hown b c z h0 hb hB
 unfold Oper.wp execOp
 simp only [ho, resolve, invoke, builtin, Sem.run_bind, Sem.run_pure, Result.andThen_ok, List.map_toArray, List.map_cons, List.map_nil, hs, hx, hr]
 exact h v' w' h2 h3
end Go.Proofs.YtmlpedgcpffpnaaGreatDoor
set_option linter.unusedSimpArgs false
namespace Go.Proofs.YtmlpedgcpffpnaaGreatDoor
open Go.RowKit Go.Maps Go.WideMaps
theorem Grow.vat {w : World} {B : Nat} {a : Option Addr} {n c : Nat} {l : List Int} (h : Grow w B (.slice a n c) l) : n = l.length ∧ VAt w a l := by
 by_cases h0 : 0 < l.length
 ·obtain ⟨g, c', e, _, hO⟩ := Grow.own h h0
  injection e with e1 e2 e3
  subst e1 e2
  refine ⟨rfl, .inr ⟨g, 0, rfl, hO.1, fun j hj => ?_⟩⟩
  rw [Nat.zero_add]
  exact (hO.2 j hj).1
 ·have hl : l = [] := List.eq_nil_of_length_eq_zero (by omega)
  subst hl
  rcases h.2 with ⟨e, _⟩ | ⟨g, cap, cur, e, r⟩
  ·injection e with e1 e2 e3; subst e1 e2; exact ⟨rfl, .inl rfl⟩
  ·injection e with e1 e2 e3; subst e1 e2; exact ⟨rfl, .inl rfl⟩
theorem vgrow_below {w w' : World} {B : Nat} {v : Value} {l : List Int} (h : Grow w B v l) (hb : Below w.heap.size w w') : Grow w' B v l := by
 refine World.ownsRow.kept (row := none) h ⟨hb.os, hb.tape, hb.output, hb.size, fun k hk _ => hb.block k hk⟩ ?_
 cases v.ownBlock with
 | none => exact .inl rfl
 | some k => exact .inr (Option.some_ne_none k)
def LnsAt (W1 : World) (B sb q r : Nat) (kn : Kn) (a1 a2 a3 : Option Addr) (c1 c2 c3 b1 b2 b3 b4 : Nat) (vs : List Int) (wr : World) : Prop := ∃ (av : Option Addr) (cv : Nat), ScBox wr sb a1 a2 a3 av kn.ins.length kn.tbs.length kn.yrs.length vs.length c1 c2 c3 cv b1 b2 b3 b4 ∧ wr.frozen? ⟨sb, 7, none⟩ = false ∧ wr.cell? ⟨q, 0, none⟩ = some (.pointer (some ⟨sb, 0, none⟩)) ∧ wr.cell? ⟨r, 0, none⟩ = some (.int .i64 0) ∧ wr.frozen? ⟨r, 0, none⟩ = false ∧ Below W1.heap.size W1 wr ∧ Grow wr B (.slice av vs.length cv) vs ∧ B ≤ wr.heap.size
theorem LnsAt.below {W1 : World} {B sb q r : Nat} {kn : Kn} {a1 a2 a3 : Option Addr} {c1 c2 c3 b1 b2 b3 b4 : Nat} {vs : List Int} {w w' : World} (h : LnsAt W1 B sb q r kn a1 a2 a3 c1 c2 c3 b1 b2 b3 b4 vs w) (hb : Below w.heap.size w w') : LnsAt W1 B sb q r kn a1 a2 a3 c1 c2 c3 b1 b2 b3 b4 vs w' := by
 obtain ⟨av, cv, h1, h2, h3, h4, h5, h6, h7, h8⟩ := h
 exact ⟨av, cv, h1.below hb, (hb.frozen (p := ⟨sb, 7, none⟩) h1.1).trans h2, (hb.cell (p := ⟨q, 0, none⟩) (blt_of_cell h3)).trans h3, (hb.cell (p := ⟨r, 0, none⟩) (blt_of_cell h4)).trans h4, (hb.frozen (p := ⟨r, 0, none⟩) (blt_of_cell h4)).trans h5, h6.trans (hb.mono h6.size), vgrow_below h7 hb, Nat.le_trans h8 hb.size⟩
theorem linesV_stop {l : List Ln} {kn : Kn} {j : Nat} {vs : List Int} (h : linesV l kn j = (vs, true)) (hn : (lnth l j).ex.val l kn vs = none) : ∀ m, j < m → linesV l kn m = (vs, false)
 | 0, hm => by omega
 | m + 1, hm => by
   by_cases e : j = m
   ·subst e; simp only [linesV, h, hn]
   ·have := linesV_stop h hn m (by omega)
    simp only [linesV, this]
theorem linesV_more {l : List Ln} {kn : Kn} {j : Nat} {vs : List Int} {v : Int} (h : linesV l kn j = (vs, true)) (hv : (lnth l j).ex.val l kn vs = some v) : linesV l kn (j + 1) = (vs ++ [v], true) := by
 simp only [linesV, h, hv]
theorem vgrow_put {w : World} {B : Nat} {v : Value} {l : List Int} {p : Addr} (h : Grow w B v l) (hp : p.block < B) (u : Value) : Grow (w.setCell p u) B v l := by
 refine World.ownsRow.kept (row := some p.block) h ⟨rfl, rfl, rfl, by simp, fun k _ hk => Below.heap_setCell w p u k (fun e => hk (by rw [e]))⟩ ?_
 cases hv : v.ownBlock with
 | none => exact .inl rfl
 | some k =>
   refine .inr fun e => ?_
   injection e with e
   have := (Grow.lt h k hv).1
   omega
theorem lns_step {W1 : World} {B sb q r : Nat} {kn : Kn} {a1 a2 a3 av : Option Addr} {c1 c2 c3 b1 b2 b3 b4 cv g9 c9 : Nat} {vs : List Int} {z : Int} {w1 w9 : World} {o : Obj} (hsb : W1.heap.size ≤ sb) (hqs : q ≠ sb) (hrs : r ≠ sb) (hB1 : sb < B) (hB2 : q < B) (hB3 : r < B) (hX : ScBox w1 sb a1 a2 a3 av kn.ins.length kn.tbs.length kn.yrs.length vs.length c1 c2 c3 cv b1 b2 b3 b4) (h2 : w1.frozen? ⟨sb, 7, none⟩ = false) (h3 : w1.cell? ⟨q, 0, none⟩ = some (.pointer (some ⟨sb, 0, none⟩))) (h4 : w1.cell? ⟨r, 0, none⟩ = some (.int .i64 0)) (h5 : w1.frozen? ⟨r, 0, none⟩ = false) (h6 : Below W1.heap.size W1 w1) (h7 : Grow w1 B (.slice av vs.length cv) vs) (h8 : B ≤ w1.heap.size) (hr : (w1.alloc o).grownBy w9 (Value.slice av vs.length cv).ownBlock) (hg : Grow w9 B (.slice (some ⟨g9, 0, none⟩) (vs ++ [z]).length c9) (vs ++ [z])) :
 LnsAt W1 B sb q r kn a1 a2 a3 c1 c2 c3 b1 b2 b3 b4 (vs ++ [z]) (w9.setCell ⟨sb, 7, none⟩ (.slice (some ⟨g9, 0, none⟩) (vs ++ [z]).length c9)) := by
 have hb9 : Below B (w1.alloc o) w9 := (Below.refl B _).grown hr (Nat.le_trans h8 (kbelow_box w1 o).size) fun k hk => (Grow.lt (Grow.alloc h7 o) k hk).1
 have hb : Below B w1 w9 := ((kbelow_box w1 o).mono h8).trans hb9
 obtain ⟨hB, x0, x1, x2, x3, x4, x5, x6, x7⟩ := hX
 have hne : ∀ k, k ≠ 7 → (⟨sb, 7, none⟩ : Addr) ≠ ⟨sb, k, none⟩ := fun k hk e => by injection e with _ e _; exact hk e.symm
 refine ⟨_, c9, ⟨?_, ?_, ?_, ?_, ?_, ?_, ?_, ?_, ?_⟩, ?_, ?_, ?_, ?_, ?_, vgrow_put hg hB1 _, ?_⟩
 ·have := hb.size; simp; omega
 ·rw [World.cell?_setCell_other (h := hne 0 (by omega))]; exact (hb.cell (p := ⟨sb, 0, none⟩) hB1).trans x0
 ·rw [World.cell?_setCell_other (h := hne 1 (by omega))]; exact (hb.cell (p := ⟨sb, 1, none⟩) hB1).trans x1
 ·rw [World.cell?_setCell_other (h := hne 2 (by omega))]; exact (hb.cell (p := ⟨sb, 2, none⟩) hB1).trans x2
 ·rw [World.cell?_setCell_other (h := hne 3 (by omega))]; exact (hb.cell (p := ⟨sb, 3, none⟩) hB1).trans x3
 ·rw [World.cell?_setCell_other (h := hne 4 (by omega))]; exact (hb.cell (p := ⟨sb, 4, none⟩) hB1).trans x4
 ·rw [World.cell?_setCell_other (h := hne 5 (by omega))]; exact (hb.cell (p := ⟨sb, 5, none⟩) hB1).trans x5
 ·rw [World.cell?_setCell_other (h := hne 6 (by omega))]; exact (hb.cell (p := ⟨sb, 6, none⟩) hB1).trans x6
 ·exact World.cell?_setCell_same _ _ _ ((hb.cell (p := ⟨sb, 7, none⟩) hB1).trans x7)
 ·rw [World.frozen?_setCell]; exact (hb.frozen (p := ⟨sb, 7, none⟩) hB1).trans h2
 ·exact (World.cell?_setCell_far w9 ⟨sb, 7, none⟩ ⟨q, 0, none⟩ _ hqs.symm).trans ((hb.cell (p := ⟨q, 0, none⟩) hB2).trans h3)
 ·exact (World.cell?_setCell_far w9 ⟨sb, 7, none⟩ ⟨r, 0, none⟩ _ hrs.symm).trans ((hb.cell (p := ⟨r, 0, none⟩) hB3).trans h4)
 ·rw [World.frozen?_setCell]; exact (hb.frozen (p := ⟨r, 0, none⟩) hB3).trans h5
 ·exact (h6.trans (hb.mono (by omega))).setCell hsb _
 ·have := hb.size; simp; omega
set_option maxRecDepth 100000 in
set_option maxHeartbeats 1000000 in
theorem lines1_any (l : List Ln) (kn : Kn) (hE : linesE l = 0) (hok : ∀ q, q < l.length → lineOk l kn q = 0) (hkn : knE kn = 0) (W1 : World) (a : Option Addr) (n cap p sb q r B : Nat) (a1 a2 a3 : Option Addr) (c1 c2 c3 b1 b2 b3 b4 : Nat) (w : World) (hL : CameL W1 a l) (hn : l.length = n) (hA1 : CameA W1 a1 kn.ins) (hA2 : CameT W1 a2 kn.tbs) (hA3 : CameA W1 a3 kn.yrs) (hM : MeantIs W1 b1 b2 b3 b4 l kn) (hp : w.cell? ⟨p, 0, none⟩ = some (.slice a n cap)) (h0 : LnsAt W1 B sb q r kn a1 a2 a3 c1 c2 c3 b1 b2 b3 b4 [] w) (hsb : W1.heap.size ≤ sb) (hqs : q ≠ sb) (hrs : r ≠ sb) (hB1 : sb < B) (hB2 : q < B) (hB3 : r < B) :
 Calls Tryz.prog 45 #[.pointer (some ⟨p, 0, none⟩), .pointer (some ⟨q, 0, none⟩)] w fun e w' => ∃ vs, LnsAt W1 B sb q r kn a1 a2 a3 c1 c2 c3 b1 b2 b3 b4 vs w' ∧ ((e = .returned (.tuple #[]) ∧ linesV l kn n = (vs, true)) ∨ (e = .panicked (gaveU 3) ∧ linesV l kn n = (vs, false))) := by
 have h40 : n ≤ 40 := by rw [← hn]; exact linesE_40 hE
 have HE := Lib.hid (And.intro hE (And.intro hok hkn))
 have HO := Lib.hid (fun h0 => hL.open hn h0)
 have HA := Lib.hid (And.intro hA1 (And.intro hA2 (And.intro hA3 hM)))
 have HZ := Lib.hid h0
 have HN := Lib.hid hn
 have HSB := Lib.hid hsb
 clear hE hok hkn hL hA1 hA2 hA3 hM h0 hn hsb
 go_enter Tryz.func45, Tryz.ntmps45
 go_wp2_with fail
 go_loopw [6] (fun i wr => ∃ (j : Nat) (vs : List Int), j ≤ n ∧ i = .int .i64 j ∧ vs.length = j ∧ linesV l kn j = (vs, true) ∧ ScOk kn vs ∧ LnsAt W1 B sb q r kn a1 a2 a3 c1 c2 c3 b1 b2 b3 b4 vs wr) (fun i _ => n - (intOf i).toNat)
 case atStart => exact ⟨0, [], Nat.zero_le _, rfl, rfl, rfl, kn_ok HE.out.2.2, HZ.out⟩
 case round =>
  obtain ⟨j, vs, hj, rfl, hvl, hlv, hsok, hat⟩ := hrel
  have HLV := Lib.hid hlv
  have HVL := Lib.hid hvl
  have HSO := Lib.hid hsok
  have HAT := Lib.hid hat
  clear hlv hvl hsok hat
  by_cases hlt : j < n
  ·have hlt' : (j : Int) < (n : Int) := by omega
   obtain ⟨b, off, rfl, hcell⟩ := HO.out (by omega)
   have HBW : Hid (Below W1.heap.size W1 wr) := Lib.hid (by obtain ⟨_, _, _, _, _, _, _, h6, _⟩ := HAT.out; exact h6)
   obtain ⟨aj, cj, ⟨x0, x1, x2, x3, x4, x5⟩, hns, hkj⟩ := hcell wr HBW.out j hlt
   have HBJ := Lib.hid (kbelow_box wr (.cells #[.int .i64 (lnth l j).kind, .string (lnth l j).name, .int .i64 (lnth l j).ex.k, .int .i64 (lnth l j).ex.n, .string (lnth l j).ex.s, .slice aj (lnth l j).ex.m cj] 52))
   have hbox := LBox.made wr (.int .i64 (lnth l j).kind) (.string (lnth l j).name) (.int .i64 (lnth l j).ex.k) (.int .i64 (lnth l j).ex.n) (.string (lnth l j).ex.s) (.slice aj (lnth l j).ex.m cj) 52
   have HATJ := Lib.hid (HAT.out.below HBJ.out)
   obtain ⟨av, cv, hX', g2', g3', g4', g5', g6', g7', g8'⟩ := HAT.out
   have HGW := Lib.hid g7'
   have hX := hX'.below HBJ.out
   have g2 := (HBJ.out.frozen (p := ⟨sb, 7, none⟩) hX'.1).trans g2'
   have g3 := (HBJ.out.cell (p := ⟨q, 0, none⟩) (blt_of_cell g3')).trans g3'
   have g4 := (HBJ.out.cell (p := ⟨r, 0, none⟩) (blt_of_cell g4')).trans g4'
   have g5 := (HBJ.out.frozen (p := ⟨r, 0, none⟩) (blt_of_cell g4')).trans g5'
   have g6 := g6'.trans (HBJ.out.mono g6'.size)
   have g7 := vgrow_below g7' HBJ.out
   have g8 := Nat.le_trans g8' HBJ.out.size
   clear hX' g2' g3' g4' g5' g6' g7'
   have HBW1 := Lib.hid g6
   have HSC : Hid (VSc (wr.alloc (.cells #[.int .i64 (lnth l j).kind, .string (lnth l j).name, .int .i64 (lnth l j).ex.k, .int .i64 (lnth l j).ex.n, .string (lnth l j).ex.s, .slice aj (lnth l j).ex.m cj] 52)) sb l kn vs) := Lib.hid ⟨a1, a2, a3, av, c1, c2, c3, cv, b1, b2, b3, b4, hX, HA.out.1.below g6, HA.out.2.1.below g6, HA.out.2.2.1.below g6, (Grow.vat g7).2, HA.out.2.2.2.below g6⟩
   have hcm := line_comes (l := l) (kn := kn) (vs := vs) HE.out.1 HE.out.2.1 HSO.out (by rw [HVL.out, HN.out]; exact hlt)
   rw [HVL.out] at hcm
   have HI := Lib.hid (hcm.1.end (c := cj) HSC.out (hkj.below HBJ.out))
   have HMO := Lib.hid hcm.2
   obtain ⟨hg, l2, l3, l4, l5⟩ := hbox
   have HXX := Lib.hid hX
   obtain ⟨_, _, _, _, _, _, _, _, y7⟩ := hX
   have HG7 := Lib.hid g7
   clear hcell hns hkj hcm g7 g6 HSC
   go_wp2_with fail
   generalize (lnth l j).ex.k = k0 at *
   generalize (lnth l j).ex.n = n0 at *
   generalize (lnth l j).ex.s = s0 at *
   generalize (lnth l j).ex.m = l0 at *
   have hqw : wr.heap.size ≠ q := by omega
   have hsw : wr.heap.size ≠ sb := by omega
   generalize hW : (wr.alloc (.cells #[.int .i64 (lnth l j).kind, .string (lnth l j).name, .int .i64 k0, .int .i64 n0, .string s0, .slice aj l0 cj] 52)) = W at *
   refine wp_region_held_drew (S := fun w' => w'.cell? ⟨q, 0, none⟩ = some (.pointer (some ⟨sb, 0, none⟩)) ∧ w'.cell? ⟨wr.heap.size, 2, none⟩ = some (.int .i64 k0) ∧ w'.cell? ⟨wr.heap.size, 3, none⟩ = some (.int .i64 n0) ∧ w'.cell? ⟨wr.heap.size, 4, none⟩ = some (.string s0) ∧ w'.cell? ⟨wr.heap.size, 5, none⟩ = some (.slice aj l0 cj)) (by kernel_rfl) ?_ (fun hHeld => ?_)
   ·exact ⟨g3, l2, l3, l4, l5⟩
   refine wpAnyH_take (i := 0) (oi := _) (v := .pointer (some ⟨sb, 0, none⟩)) rfl (by kernel_rfl) (by kernel_rfl) (by kernel_rfl) (fun _ _ _ h => h) (Or.inl ⟨by rfl, fun w hSw => ?_⟩) (by assumption) ?_
   ·((try dsimp only at hSw); go_simp; try with_reducible rfl)
   try simp only [Act.put, List.setIfInBounds_toArray, List.set_cons_zero, List.set_cons_succ]
   refine wpAnyH_take (i := 1) (oi := _) (v := .pointer (some ⟨sb, 0, none⟩)) rfl (by kernel_rfl) (by kernel_rfl) (by kernel_rfl) (fun _ _ _ h => h) (Or.inl ⟨by rfl, fun w hSw => ?_⟩) (by assumption) ?_
   ·((try dsimp only at hSw); go_simp; try with_reducible rfl)
   try simp only [Act.put, List.setIfInBounds_toArray, List.set_cons_zero, List.set_cons_succ]
   refine wpAnyH_take (i := 2) (oi := _) (v := .pointer (some ⟨sb, 0, none⟩)) rfl (by kernel_rfl) (by kernel_rfl) (by kernel_rfl) (fun _ _ _ h => h) (Or.inl ⟨by rfl, fun w hSw => ?_⟩) (by assumption) ?_
   ·((try dsimp only at hSw); go_simp; try with_reducible rfl)
   try simp only [Act.put, List.setIfInBounds_toArray, List.set_cons_zero, List.set_cons_succ]
   refine wpAnyH_take (i := 3) (oi := _) (v := .pointer (some ⟨sb, 7, none⟩)) rfl (by kernel_rfl) (by kernel_rfl) (by kernel_rfl) (fun _ _ _ h => h) (Or.inl ⟨by rfl, fun w hSw => ?_⟩) (by assumption) ?_
   ·((try dsimp only at hSw); go_simp; try with_reducible rfl)
   try simp only [Act.put, List.setIfInBounds_toArray, List.set_cons_zero, List.set_cons_succ]
   refine wpAnyH_take (i := 5) (oi := _) (v := .pointer (some ⟨sb, 0, none⟩)) rfl (by kernel_rfl) (by kernel_rfl) (by kernel_rfl) (fun _ _ _ h => h) (Or.inl ⟨by rfl, fun w hSw => ?_⟩) (by assumption) ?_
   ·((try dsimp only at hSw); go_simp; try with_reducible rfl)
   try simp only [Act.put, List.setIfInBounds_toArray, List.set_cons_zero, List.set_cons_succ]
   refine wpAnyH_take (i := 6) (oi := _) (v := .pointer (some ⟨wr.heap.size, 2, none⟩)) rfl (by kernel_rfl) (by kernel_rfl) (by kernel_rfl) (fun _ _ _ h => h) (Or.inl ⟨by rfl, fun w hSw => ?_⟩) (by assumption) ?_
   ·((try dsimp only at hSw); go_simp; try with_reducible rfl)
   try simp only [Act.put, List.setIfInBounds_toArray, List.set_cons_zero, List.set_cons_succ]
   refine wpAnyH_take (i := 7) (oi := _) (v := .agg #[.int .i64 k0, .int .i64 n0, .string s0, .slice aj l0 cj]) rfl (by kernel_rfl) (by kernel_rfl) (by kernel_rfl) (fun _ _ _ h => h) (Or.inl ⟨by rfl, fun w hSw => ?_⟩) (by assumption) ?_
   ·((try dsimp only at hSw); go_simp; try with_reducible rfl)
   try simp only [Act.put, List.setIfInBounds_toArray, List.set_cons_zero, List.set_cons_succ]
   refine wpAnyH_ready (rs := [4, 8]) (by kernel_rfl) (by simp) ?_
   refine AllReadyH.cons rfl (fun K hK => ?_) (AllReadyH.cons rfl (fun K hK => ?_) AllReadyH.nil)
   ·go_simp
    refine hK.out _ _ ⟨g3, l2, l3, l4, l5⟩ (fun hHeld => ?_)
    clear hK K
    try simp only [Act.put, List.setIfInBounds_toArray, List.set_cons_zero, List.set_cons_succ]
    refine wpAnyH_ready (rs := [8]) (by kernel_rfl) (by simp) ?_
    refine AllReadyH.cons rfl (fun K hK => ?_) AllReadyH.nil
    go_simp
    refine (HI.out _ (kbelow_dN (Below.refl _ _) 1)).mono ?_
    rintro e w1 ⟨⟨hz, rfl⟩ | ⟨z, hz, rfl⟩, hb1⟩
    ·exact ⟨rfl, vs, HATJ.out.below (nfrom_drew hb1), .inr ⟨rfl, linesV_stop HLV.out hz n hlt⟩⟩
    have HX1 := Lib.hid (nfrom_drew hb1)
    have HZ1 := Lib.hid hz
    have r0 := (HX1.out.cell (p := ⟨q, 0, none⟩) (blt_of_cell g3)).trans g3
    have r2 := (HX1.out.cell (p := ⟨wr.heap.size, 2, none⟩) hg).trans l2
    have r3 := (HX1.out.cell (p := ⟨wr.heap.size, 3, none⟩) hg).trans l3
    have r4 := (HX1.out.cell (p := ⟨wr.heap.size, 4, none⟩) hg).trans l4
    have r5 := (HX1.out.cell (p := ⟨wr.heap.size, 5, none⟩) hg).trans l5
    have r7 := (HX1.out.cell (p := ⟨sb, 7, none⟩) (blt_of_cell y7)).trans y7
    have r7a : ∀ u, (w1.alloc u).cell? ⟨sb, 7, none⟩ = some (.slice av vs.length cv) := fun u => ((kbelow_box w1 u).cell (p := ⟨sb, 7, none⟩) (blt_of_cell r7)).trans r7
    clear hb1 hz
    try go_wp2_with fail
    refine hK.out _ _ ?_ (fun hHeld => ?_)
    ·exact ⟨r0, r2, r3, r4, r5⟩
    clear hK K
    try simp only [Act.put, List.setIfInBounds_toArray, List.set_cons_zero, List.set_cons_succ]
    refine wpAnyH_ready (rs := [9]) (by kernel_rfl) (by simp) ?_
    refine AllReadyH.cons rfl (fun K hK => ?_) AllReadyH.nil
    go_simp
    refine hK.out _ _ ⟨((kbelow_box w1 _).cell (p := ⟨q, 0, none⟩) (blt_of_cell r0)).trans r0, ((kbelow_box w1 _).cell (p := ⟨wr.heap.size, 2, none⟩) (blt_of_cell r2)).trans r2, ((kbelow_box w1 _).cell (p := ⟨wr.heap.size, 3, none⟩) (blt_of_cell r3)).trans r3, ((kbelow_box w1 _).cell (p := ⟨wr.heap.size, 4, none⟩) (blt_of_cell r4)).trans r4, ((kbelow_box w1 _).cell (p := ⟨wr.heap.size, 5, none⟩) (blt_of_cell r5)).trans r5⟩ (fun hHeld => ?_)
    clear hK K
    try simp only [Act.put, List.setIfInBounds_toArray, List.set_cons_zero, List.set_cons_succ]
    refine wpAnyH_ready (rs := [10]) (by kernel_rfl) (by simp) ?_
    refine AllReadyH.cons rfl (fun K hK => ?_) AllReadyH.nil
    refine step_app_i _ rfl (.tmp 14) (.tmp 19) rfl B (.slice av vs.length cv) vs (by simp [Act.eval]) (Grow.alloc (vgrow_below HG7.out HX1.out) _) w1.heap.size 1 z (by simp [Act.eval]) (by simp) (by rw [HVL.out]; omega) (by have := HX1.out.size; simp; omega) ?_
    intro v9 w9 hg9 hr9
    obtain ⟨g9, c9, rfl, _⟩ := Grow.own hg9 (by simp)
    have HG9 := Lib.hid hg9
    have HR9 := Lib.hid hr9
    have hnq : ∀ k, (k = q ∨ k = sb ∨ k = wr.heap.size) → some k ≠ (Value.slice av vs.length cv).ownBlock := fun k hk e => by
     have h1 := Grow.lt HG7.out k e.symm
     have h2 := Grow.lt HGW.out k e.symm
     omega
    have t0 := hr9.cell (a := ⟨q, 0, none⟩) (v := .pointer (some ⟨sb, 0, none⟩)) (((kbelow_box w1 _).cell (p := ⟨q, 0, none⟩) (blt_of_cell r0)).trans r0) (hnq _ (.inl rfl))
    have t2 := hr9.cell (a := ⟨wr.heap.size, 2, none⟩) (v := .int .i64 k0) (((kbelow_box w1 _).cell (p := ⟨wr.heap.size, 2, none⟩) (blt_of_cell r2)).trans r2) (hnq _ (.inr (.inr rfl)))
    have t3 := hr9.cell (a := ⟨wr.heap.size, 3, none⟩) (v := .int .i64 n0) (((kbelow_box w1 _).cell (p := ⟨wr.heap.size, 3, none⟩) (blt_of_cell r3)).trans r3) (hnq _ (.inr (.inr rfl)))
    have t4 := hr9.cell (a := ⟨wr.heap.size, 4, none⟩) (v := .string s0) (((kbelow_box w1 _).cell (p := ⟨wr.heap.size, 4, none⟩) (blt_of_cell r4)).trans r4) (hnq _ (.inr (.inr rfl)))
    have t5 := hr9.cell (a := ⟨wr.heap.size, 5, none⟩) (v := .slice aj l0 cj) (((kbelow_box w1 _).cell (p := ⟨wr.heap.size, 5, none⟩) (blt_of_cell r5)).trans r5) (hnq _ (.inr (.inr rfl)))
    have t7 := hr9.cell (a := ⟨sb, 7, none⟩) (v := .slice av vs.length cv) (((kbelow_box w1 _).cell (p := ⟨sb, 7, none⟩) (blt_of_cell r7)).trans r7) (hnq _ (.inr (.inl rfl)))
    have f7 : w9.frozen? ⟨sb, 7, none⟩ = false := (World.frozen?_of_block (a := ⟨sb, 7, none⟩) (hr9.block sb (Nat.lt_of_lt_of_le (blt_of_cell r7) (kbelow_box w1 _).size) (hnq _ (.inr (.inl rfl))))).trans (((kbelow_box w1 _).frozen (p := ⟨sb, 7, none⟩) (blt_of_cell r7)).trans ((HX1.out.frozen (p := ⟨sb, 7, none⟩) (blt_of_cell y7)).trans g2))
    have e0 : ∀ u, (w9.setCell ⟨sb, 7, none⟩ u).cell? ⟨q, 0, none⟩ = some (.pointer (some ⟨sb, 0, none⟩)) := fun u => (World.cell?_setCell_far w9 ⟨sb, 7, none⟩ ⟨q, 0, none⟩ u hqs.symm).trans t0
    have e2 : ∀ u, (w9.setCell ⟨sb, 7, none⟩ u).cell? ⟨wr.heap.size, 2, none⟩ = some (.int .i64 k0) := fun u => (World.cell?_setCell_far w9 ⟨sb, 7, none⟩ ⟨wr.heap.size, 2, none⟩ u hsw.symm).trans t2
    have e3 : ∀ u, (w9.setCell ⟨sb, 7, none⟩ u).cell? ⟨wr.heap.size, 3, none⟩ = some (.int .i64 n0) := fun u => (World.cell?_setCell_far w9 ⟨sb, 7, none⟩ ⟨wr.heap.size, 3, none⟩ u hsw.symm).trans t3
    have e4 : ∀ u, (w9.setCell ⟨sb, 7, none⟩ u).cell? ⟨wr.heap.size, 4, none⟩ = some (.string s0) := fun u => (World.cell?_setCell_far w9 ⟨sb, 7, none⟩ ⟨wr.heap.size, 4, none⟩ u hsw.symm).trans t4
    have e5 : ∀ u, (w9.setCell ⟨sb, 7, none⟩ u).cell? ⟨wr.heap.size, 5, none⟩ = some (.slice aj l0 cj) := fun u => (World.cell?_setCell_far w9 ⟨sb, 7, none⟩ ⟨wr.heap.size, 5, none⟩ u hsw.symm).trans t5
    clear hg9 hr9 hnq
    refine hK.out _ _ ⟨t0, t2, t3, t4, t5⟩ (fun hHeld => ?_)
    clear hK K
    try simp only [Act.put, List.setIfInBounds_toArray, List.set_cons_zero, List.set_cons_succ]
    refine wpAnyH_take (i := 11) (oi := _) (v := .pointer (some ⟨sb, 0, none⟩)) rfl (by kernel_rfl) (by kernel_rfl) (by kernel_rfl) (fun _ _ _ h => h) (Or.inl ⟨by rfl, fun w hSw => ?_⟩) (by assumption) ?_
    ·((try dsimp only at hSw); go_simp; try with_reducible rfl)
    try simp only [Act.put, List.setIfInBounds_toArray, List.set_cons_zero, List.set_cons_succ]
    refine wpAnyH_take (i := 12) (oi := _) (v := .pointer (some ⟨sb, 7, none⟩)) rfl (by kernel_rfl) (by kernel_rfl) (by kernel_rfl) (fun _ _ _ h => h) (Or.inl ⟨by rfl, fun w hSw => ?_⟩) (by assumption) ?_
    ·((try dsimp only at hSw); go_simp; try with_reducible rfl)
    try simp only [Act.put, List.setIfInBounds_toArray, List.set_cons_zero, List.set_cons_succ]
    refine wpAnyH_ready (rs := [13]) (by kernel_rfl) (by simp) ?_
    refine AllReadyH.cons rfl (fun K hK => ?_) AllReadyH.nil
    go_simp
    refine hK.out _ _ ⟨e0 _, e2 _, e3 _, e4 _, e5 _⟩ (fun hHeld => ?_)
    clear hK K
    refine wpAnyH_done (by kernel_rfl) ?_ _
    have hlen : (vs ++ [z]).length = vs.length + 1 := by simp
    have HST := Lib.hid (lns_step (W1 := W1) HSB.out hqs hrs hB1 hB2 hB3 (HXX.out.below HX1.out) ((HX1.out.frozen (p := ⟨sb, 7, none⟩) (blt_of_cell y7)).trans g2) r0 ((HX1.out.cell (p := ⟨r, 0, none⟩) (blt_of_cell g4)).trans g4) ((HX1.out.frozen (p := ⟨r, 0, none⟩) (blt_of_cell g4)).trans g5) (HBW1.out.trans (HX1.out.mono HBW1.out.size)) (vgrow_below HG7.out HX1.out) (Nat.le_trans g8 HX1.out.size) HR9.out HG9.out)
    rw [hlen] at HST
    go_wp2_with fail
    go_roundw
    ·exact ⟨j + 1, vs ++ [z], by omega, by go_num, by rw [hlen, HVL.out], linesV_more HLV.out HZ1.out, HSO.out.more (HMO.out z HZ1.out), HST.out⟩
    ·simp [intOf]; omega
   ·go_simp
    refine (HI.out _ (kbelow_dN (Below.refl _ _) 1)).mono ?_
    rintro e w1 ⟨⟨hz, rfl⟩ | ⟨z, hz, rfl⟩, hb1⟩
    ·exact ⟨rfl, vs, HATJ.out.below (nfrom_drew hb1), .inr ⟨rfl, linesV_stop HLV.out hz n hlt⟩⟩
    have HX1 := Lib.hid (nfrom_drew hb1)
    have HZ1 := Lib.hid hz
    have r0 := (HX1.out.cell (p := ⟨q, 0, none⟩) (blt_of_cell g3)).trans g3
    have r2 := (HX1.out.cell (p := ⟨wr.heap.size, 2, none⟩) hg).trans l2
    have r3 := (HX1.out.cell (p := ⟨wr.heap.size, 3, none⟩) hg).trans l3
    have r4 := (HX1.out.cell (p := ⟨wr.heap.size, 4, none⟩) hg).trans l4
    have r5 := (HX1.out.cell (p := ⟨wr.heap.size, 5, none⟩) hg).trans l5
    have r7 := (HX1.out.cell (p := ⟨sb, 7, none⟩) (blt_of_cell y7)).trans y7
    have r7a : ∀ u, (w1.alloc u).cell? ⟨sb, 7, none⟩ = some (.slice av vs.length cv) := fun u => ((kbelow_box w1 u).cell (p := ⟨sb, 7, none⟩) (blt_of_cell r7)).trans r7
    clear hb1 hz
    try go_wp2_with fail
    refine hK.out _ _ ?_ (fun hHeld => ?_)
    ·exact ⟨r0, r2, r3, r4, r5⟩
    clear hK K
    try simp only [Act.put, List.setIfInBounds_toArray, List.set_cons_zero, List.set_cons_succ]
    refine wpAnyH_ready (rs := [4, 9]) (by kernel_rfl) (by simp) ?_
    refine AllReadyH.cons rfl (fun K hK => ?_) (AllReadyH.cons rfl (fun K hK => ?_) AllReadyH.nil)
    ·go_simp
     refine hK.out _ _ ⟨r0, r2, r3, r4, r5⟩ (fun hHeld => ?_)
     clear hK K
     try simp only [Act.put, List.setIfInBounds_toArray, List.set_cons_zero, List.set_cons_succ]
     refine wpAnyH_ready (rs := [9]) (by kernel_rfl) (by simp) ?_
     refine AllReadyH.cons rfl (fun K hK => ?_) AllReadyH.nil
     go_simp
     refine hK.out _ _ ⟨((kbelow_box w1 _).cell (p := ⟨q, 0, none⟩) (blt_of_cell r0)).trans r0, ((kbelow_box w1 _).cell (p := ⟨wr.heap.size, 2, none⟩) (blt_of_cell r2)).trans r2, ((kbelow_box w1 _).cell (p := ⟨wr.heap.size, 3, none⟩) (blt_of_cell r3)).trans r3, ((kbelow_box w1 _).cell (p := ⟨wr.heap.size, 4, none⟩) (blt_of_cell r4)).trans r4, ((kbelow_box w1 _).cell (p := ⟨wr.heap.size, 5, none⟩) (blt_of_cell r5)).trans r5⟩ (fun hHeld => ?_)
     clear hK K
     try simp only [Act.put, List.setIfInBounds_toArray, List.set_cons_zero, List.set_cons_succ]
     refine wpAnyH_ready (rs := [10]) (by kernel_rfl) (by simp) ?_
     refine AllReadyH.cons rfl (fun K hK => ?_) AllReadyH.nil
     refine step_app_i _ rfl (.tmp 14) (.tmp 19) rfl B (.slice av vs.length cv) vs (by simp [Act.eval]) (Grow.alloc (vgrow_below HG7.out HX1.out) _) w1.heap.size 1 z (by simp [Act.eval]) (by simp) (by rw [HVL.out]; omega) (by have := HX1.out.size; simp; omega) ?_
     intro v9 w9 hg9 hr9
     obtain ⟨g9, c9, rfl, _⟩ := Grow.own hg9 (by simp)
     have HG9 := Lib.hid hg9
     have HR9 := Lib.hid hr9
     have hnq : ∀ k, (k = q ∨ k = sb ∨ k = wr.heap.size) → some k ≠ (Value.slice av vs.length cv).ownBlock := fun k hk e => by
      have h1 := Grow.lt HG7.out k e.symm
      have h2 := Grow.lt HGW.out k e.symm
      omega
     have t0 := hr9.cell (a := ⟨q, 0, none⟩) (v := .pointer (some ⟨sb, 0, none⟩)) (((kbelow_box w1 _).cell (p := ⟨q, 0, none⟩) (blt_of_cell r0)).trans r0) (hnq _ (.inl rfl))
     have t2 := hr9.cell (a := ⟨wr.heap.size, 2, none⟩) (v := .int .i64 k0) (((kbelow_box w1 _).cell (p := ⟨wr.heap.size, 2, none⟩) (blt_of_cell r2)).trans r2) (hnq _ (.inr (.inr rfl)))
     have t3 := hr9.cell (a := ⟨wr.heap.size, 3, none⟩) (v := .int .i64 n0) (((kbelow_box w1 _).cell (p := ⟨wr.heap.size, 3, none⟩) (blt_of_cell r3)).trans r3) (hnq _ (.inr (.inr rfl)))
     have t4 := hr9.cell (a := ⟨wr.heap.size, 4, none⟩) (v := .string s0) (((kbelow_box w1 _).cell (p := ⟨wr.heap.size, 4, none⟩) (blt_of_cell r4)).trans r4) (hnq _ (.inr (.inr rfl)))
     have t5 := hr9.cell (a := ⟨wr.heap.size, 5, none⟩) (v := .slice aj l0 cj) (((kbelow_box w1 _).cell (p := ⟨wr.heap.size, 5, none⟩) (blt_of_cell r5)).trans r5) (hnq _ (.inr (.inr rfl)))
     have t7 := hr9.cell (a := ⟨sb, 7, none⟩) (v := .slice av vs.length cv) (((kbelow_box w1 _).cell (p := ⟨sb, 7, none⟩) (blt_of_cell r7)).trans r7) (hnq _ (.inr (.inl rfl)))
     have f7 : w9.frozen? ⟨sb, 7, none⟩ = false := (World.frozen?_of_block (a := ⟨sb, 7, none⟩) (hr9.block sb (Nat.lt_of_lt_of_le (blt_of_cell r7) (kbelow_box w1 _).size) (hnq _ (.inr (.inl rfl))))).trans (((kbelow_box w1 _).frozen (p := ⟨sb, 7, none⟩) (blt_of_cell r7)).trans ((HX1.out.frozen (p := ⟨sb, 7, none⟩) (blt_of_cell y7)).trans g2))
     have e0 : ∀ u, (w9.setCell ⟨sb, 7, none⟩ u).cell? ⟨q, 0, none⟩ = some (.pointer (some ⟨sb, 0, none⟩)) := fun u => (World.cell?_setCell_far w9 ⟨sb, 7, none⟩ ⟨q, 0, none⟩ u hqs.symm).trans t0
     have e2 : ∀ u, (w9.setCell ⟨sb, 7, none⟩ u).cell? ⟨wr.heap.size, 2, none⟩ = some (.int .i64 k0) := fun u => (World.cell?_setCell_far w9 ⟨sb, 7, none⟩ ⟨wr.heap.size, 2, none⟩ u hsw.symm).trans t2
     have e3 : ∀ u, (w9.setCell ⟨sb, 7, none⟩ u).cell? ⟨wr.heap.size, 3, none⟩ = some (.int .i64 n0) := fun u => (World.cell?_setCell_far w9 ⟨sb, 7, none⟩ ⟨wr.heap.size, 3, none⟩ u hsw.symm).trans t3
     have e4 : ∀ u, (w9.setCell ⟨sb, 7, none⟩ u).cell? ⟨wr.heap.size, 4, none⟩ = some (.string s0) := fun u => (World.cell?_setCell_far w9 ⟨sb, 7, none⟩ ⟨wr.heap.size, 4, none⟩ u hsw.symm).trans t4
     have e5 : ∀ u, (w9.setCell ⟨sb, 7, none⟩ u).cell? ⟨wr.heap.size, 5, none⟩ = some (.slice aj l0 cj) := fun u => (World.cell?_setCell_far w9 ⟨sb, 7, none⟩ ⟨wr.heap.size, 5, none⟩ u hsw.symm).trans t5
     clear hg9 hr9 hnq
     refine hK.out _ _ ⟨t0, t2, t3, t4, t5⟩ (fun hHeld => ?_)
     clear hK K
     try simp only [Act.put, List.setIfInBounds_toArray, List.set_cons_zero, List.set_cons_succ]
     refine wpAnyH_take (i := 11) (oi := _) (v := .pointer (some ⟨sb, 0, none⟩)) rfl (by kernel_rfl) (by kernel_rfl) (by kernel_rfl) (fun _ _ _ h => h) (Or.inl ⟨by rfl, fun w hSw => ?_⟩) (by assumption) ?_
     ·((try dsimp only at hSw); go_simp; try with_reducible rfl)
     try simp only [Act.put, List.setIfInBounds_toArray, List.set_cons_zero, List.set_cons_succ]
     refine wpAnyH_take (i := 12) (oi := _) (v := .pointer (some ⟨sb, 7, none⟩)) rfl (by kernel_rfl) (by kernel_rfl) (by kernel_rfl) (fun _ _ _ h => h) (Or.inl ⟨by rfl, fun w hSw => ?_⟩) (by assumption) ?_
     ·((try dsimp only at hSw); go_simp; try with_reducible rfl)
     try simp only [Act.put, List.setIfInBounds_toArray, List.set_cons_zero, List.set_cons_succ]
     refine wpAnyH_ready (rs := [13]) (by kernel_rfl) (by simp) ?_
     refine AllReadyH.cons rfl (fun K hK => ?_) AllReadyH.nil
     go_simp
     refine hK.out _ _ ⟨e0 _, e2 _, e3 _, e4 _, e5 _⟩ (fun hHeld => ?_)
     clear hK K
     refine wpAnyH_done (by kernel_rfl) ?_ _
     have hlen : (vs ++ [z]).length = vs.length + 1 := by simp
     have HST := Lib.hid (lns_step (W1 := W1) HSB.out hqs hrs hB1 hB2 hB3 (HXX.out.below HX1.out) ((HX1.out.frozen (p := ⟨sb, 7, none⟩) (blt_of_cell y7)).trans g2) r0 ((HX1.out.cell (p := ⟨r, 0, none⟩) (blt_of_cell g4)).trans g4) ((HX1.out.frozen (p := ⟨r, 0, none⟩) (blt_of_cell g4)).trans g5) (HBW1.out.trans (HX1.out.mono HBW1.out.size)) (vgrow_below HG7.out HX1.out) (Nat.le_trans g8 HX1.out.size) HR9.out HG9.out)
     rw [hlen] at HST
     go_wp2_with fail
     go_roundw
     ·exact ⟨j + 1, vs ++ [z], by omega, by go_num, by rw [hlen, HVL.out], linesV_more HLV.out HZ1.out, HSO.out.more (HMO.out z HZ1.out), HST.out⟩
     ·simp [intOf]; omega
    ·go_simp
     refine hK.out _ _ ⟨((kbelow_box w1 _).cell (p := ⟨q, 0, none⟩) (blt_of_cell r0)).trans r0, ((kbelow_box w1 _).cell (p := ⟨wr.heap.size, 2, none⟩) (blt_of_cell r2)).trans r2, ((kbelow_box w1 _).cell (p := ⟨wr.heap.size, 3, none⟩) (blt_of_cell r3)).trans r3, ((kbelow_box w1 _).cell (p := ⟨wr.heap.size, 4, none⟩) (blt_of_cell r4)).trans r4, ((kbelow_box w1 _).cell (p := ⟨wr.heap.size, 5, none⟩) (blt_of_cell r5)).trans r5⟩ (fun hHeld => ?_)
     clear hK K
     try simp only [Act.put, List.setIfInBounds_toArray, List.set_cons_zero, List.set_cons_succ]
     refine wpAnyH_ready (rs := [4]) (by kernel_rfl) (by simp) ?_
     refine AllReadyH.cons rfl (fun K hK => ?_) AllReadyH.nil
     have r7b := r7a (.cells #[.int .i64 z] 3)
     go_simp
     refine hK.out _ _ ⟨((kbelow_box w1 _).cell (p := ⟨q, 0, none⟩) (blt_of_cell r0)).trans r0, ((kbelow_box w1 _).cell (p := ⟨wr.heap.size, 2, none⟩) (blt_of_cell r2)).trans r2, ((kbelow_box w1 _).cell (p := ⟨wr.heap.size, 3, none⟩) (blt_of_cell r3)).trans r3, ((kbelow_box w1 _).cell (p := ⟨wr.heap.size, 4, none⟩) (blt_of_cell r4)).trans r4, ((kbelow_box w1 _).cell (p := ⟨wr.heap.size, 5, none⟩) (blt_of_cell r5)).trans r5⟩ (fun hHeld => ?_)
     clear hK K
     try simp only [Act.put, List.setIfInBounds_toArray, List.set_cons_zero, List.set_cons_succ]
     refine wpAnyH_ready (rs := [10]) (by kernel_rfl) (by simp) ?_
     refine AllReadyH.cons rfl (fun K hK => ?_) AllReadyH.nil
     refine step_app_i _ rfl (.tmp 14) (.tmp 19) rfl B (.slice av vs.length cv) vs (by simp [Act.eval]) (Grow.alloc (vgrow_below HG7.out HX1.out) _) w1.heap.size 1 z (by simp [Act.eval]) (by simp) (by rw [HVL.out]; omega) (by have := HX1.out.size; simp; omega) ?_
     intro v9 w9 hg9 hr9
     obtain ⟨g9, c9, rfl, _⟩ := Grow.own hg9 (by simp)
     have HG9 := Lib.hid hg9
     have HR9 := Lib.hid hr9
     have hnq : ∀ k, (k = q ∨ k = sb ∨ k = wr.heap.size) → some k ≠ (Value.slice av vs.length cv).ownBlock := fun k hk e => by
      have h1 := Grow.lt HG7.out k e.symm
      have h2 := Grow.lt HGW.out k e.symm
      omega
     have t0 := hr9.cell (a := ⟨q, 0, none⟩) (v := .pointer (some ⟨sb, 0, none⟩)) (((kbelow_box w1 _).cell (p := ⟨q, 0, none⟩) (blt_of_cell r0)).trans r0) (hnq _ (.inl rfl))
     have t2 := hr9.cell (a := ⟨wr.heap.size, 2, none⟩) (v := .int .i64 k0) (((kbelow_box w1 _).cell (p := ⟨wr.heap.size, 2, none⟩) (blt_of_cell r2)).trans r2) (hnq _ (.inr (.inr rfl)))
     have t3 := hr9.cell (a := ⟨wr.heap.size, 3, none⟩) (v := .int .i64 n0) (((kbelow_box w1 _).cell (p := ⟨wr.heap.size, 3, none⟩) (blt_of_cell r3)).trans r3) (hnq _ (.inr (.inr rfl)))
     have t4 := hr9.cell (a := ⟨wr.heap.size, 4, none⟩) (v := .string s0) (((kbelow_box w1 _).cell (p := ⟨wr.heap.size, 4, none⟩) (blt_of_cell r4)).trans r4) (hnq _ (.inr (.inr rfl)))
     have t5 := hr9.cell (a := ⟨wr.heap.size, 5, none⟩) (v := .slice aj l0 cj) (((kbelow_box w1 _).cell (p := ⟨wr.heap.size, 5, none⟩) (blt_of_cell r5)).trans r5) (hnq _ (.inr (.inr rfl)))
     have t7 := hr9.cell (a := ⟨sb, 7, none⟩) (v := .slice av vs.length cv) (((kbelow_box w1 _).cell (p := ⟨sb, 7, none⟩) (blt_of_cell r7)).trans r7) (hnq _ (.inr (.inl rfl)))
     have f7 : w9.frozen? ⟨sb, 7, none⟩ = false := (World.frozen?_of_block (a := ⟨sb, 7, none⟩) (hr9.block sb (Nat.lt_of_lt_of_le (blt_of_cell r7) (kbelow_box w1 _).size) (hnq _ (.inr (.inl rfl))))).trans (((kbelow_box w1 _).frozen (p := ⟨sb, 7, none⟩) (blt_of_cell r7)).trans ((HX1.out.frozen (p := ⟨sb, 7, none⟩) (blt_of_cell y7)).trans g2))
     have e0 : ∀ u, (w9.setCell ⟨sb, 7, none⟩ u).cell? ⟨q, 0, none⟩ = some (.pointer (some ⟨sb, 0, none⟩)) := fun u => (World.cell?_setCell_far w9 ⟨sb, 7, none⟩ ⟨q, 0, none⟩ u hqs.symm).trans t0
     have e2 : ∀ u, (w9.setCell ⟨sb, 7, none⟩ u).cell? ⟨wr.heap.size, 2, none⟩ = some (.int .i64 k0) := fun u => (World.cell?_setCell_far w9 ⟨sb, 7, none⟩ ⟨wr.heap.size, 2, none⟩ u hsw.symm).trans t2
     have e3 : ∀ u, (w9.setCell ⟨sb, 7, none⟩ u).cell? ⟨wr.heap.size, 3, none⟩ = some (.int .i64 n0) := fun u => (World.cell?_setCell_far w9 ⟨sb, 7, none⟩ ⟨wr.heap.size, 3, none⟩ u hsw.symm).trans t3
     have e4 : ∀ u, (w9.setCell ⟨sb, 7, none⟩ u).cell? ⟨wr.heap.size, 4, none⟩ = some (.string s0) := fun u => (World.cell?_setCell_far w9 ⟨sb, 7, none⟩ ⟨wr.heap.size, 4, none⟩ u hsw.symm).trans t4
     have e5 : ∀ u, (w9.setCell ⟨sb, 7, none⟩ u).cell? ⟨wr.heap.size, 5, none⟩ = some (.slice aj l0 cj) := fun u => (World.cell?_setCell_far w9 ⟨sb, 7, none⟩ ⟨wr.heap.size, 5, none⟩ u hsw.symm).trans t5
     clear hg9 hr9 hnq
     refine hK.out _ _ ⟨t0, t2, t3, t4, t5⟩ (fun hHeld => ?_)
     clear hK K
     try simp only [Act.put, List.setIfInBounds_toArray, List.set_cons_zero, List.set_cons_succ]
     refine wpAnyH_take (i := 11) (oi := _) (v := .pointer (some ⟨sb, 0, none⟩)) rfl (by kernel_rfl) (by kernel_rfl) (by kernel_rfl) (fun _ _ _ h => h) (Or.inl ⟨by rfl, fun w hSw => ?_⟩) (by assumption) ?_
     ·((try dsimp only at hSw); go_simp; try with_reducible rfl)
     try simp only [Act.put, List.setIfInBounds_toArray, List.set_cons_zero, List.set_cons_succ]
     refine wpAnyH_take (i := 12) (oi := _) (v := .pointer (some ⟨sb, 7, none⟩)) rfl (by kernel_rfl) (by kernel_rfl) (by kernel_rfl) (fun _ _ _ h => h) (Or.inl ⟨by rfl, fun w hSw => ?_⟩) (by assumption) ?_
     ·((try dsimp only at hSw); go_simp; try with_reducible rfl)
     try simp only [Act.put, List.setIfInBounds_toArray, List.set_cons_zero, List.set_cons_succ]
     refine wpAnyH_ready (rs := [13]) (by kernel_rfl) (by simp) ?_
     refine AllReadyH.cons rfl (fun K hK => ?_) AllReadyH.nil
     go_simp
     refine hK.out _ _ ⟨e0 _, e2 _, e3 _, e4 _, e5 _⟩ (fun hHeld => ?_)
     clear hK K
     refine wpAnyH_done (by kernel_rfl) ?_ _
     have hlen : (vs ++ [z]).length = vs.length + 1 := by simp
     have HST := Lib.hid (lns_step (W1 := W1) HSB.out hqs hrs hB1 hB2 hB3 (HXX.out.below HX1.out) ((HX1.out.frozen (p := ⟨sb, 7, none⟩) (blt_of_cell y7)).trans g2) r0 ((HX1.out.cell (p := ⟨r, 0, none⟩) (blt_of_cell g4)).trans g4) ((HX1.out.frozen (p := ⟨r, 0, none⟩) (blt_of_cell g4)).trans g5) (HBW1.out.trans (HX1.out.mono HBW1.out.size)) (vgrow_below HG7.out HX1.out) (Nat.le_trans g8 HX1.out.size) HR9.out HG9.out)
     rw [hlen] at HST
     go_wp2_with fail
     go_roundw
     ·exact ⟨j + 1, vs ++ [z], by omega, by go_num, by rw [hlen, HVL.out], linesV_more HLV.out HZ1.out, HSO.out.more (HMO.out z HZ1.out), HST.out⟩
     ·simp [intOf]; omega
  ·have hjn : j = n := by omega
   subst hjn
   have hltB : decide ((j : Int) < (j : Int)) = false := decide_eq_false (by omega)
   go_wp2_with fail
   exact ⟨rfl, .tuple #[], by simp [results, Tryz.results45, go_sem], vs, HAT.out, .inl ⟨rfl, HLV.out⟩⟩
end Go.Proofs.YtmlpedgcpffpnaaGreatDoor
set_option linter.unusedSimpArgs false
namespace Go.Proofs.YtmlpedgcpffpnaaGreatDoor
open Go.RowKit Go.Maps Go.WideMaps
def linesR (l : List Ln) (k : Kn) (w : World) (e : Ending) (w' : World) : Prop :=
 Below w.heap.size w w' ∧ ((∃ i er : Int, er ≠ 0 ∧ BindIs l k i er ∧ e = .returned (.tuple #[.slice none 0 0, .int .i64 i, .int .i64 er])) ∨
  (BindIs l k 0 0 ∧ ∃ vs, linesV l k l.length = (vs, false) ∧ e = .returned (.tuple #[.slice none 0 0, .int .i64 vs.length, .int .i64 3])) ∨
  (BindIs l k 0 0 ∧ ∃ vs v B, linesV l k l.length = (vs, true) ∧ w.heap.size ≤ B ∧ Grow w' B v vs ∧ e = .returned (.tuple #[v, .int .i64 0, .int .i64 0])))
def ScAt (w w4 : World) (q sb : Nat) (a : Option Addr) (n cap : Nat) (a1 a2 a3 : Option Addr) (c1 c2 c3 : Nat) (l : List Ln) (k : Kn) : Prop := ∃ (W1 : World) (b1 b2 b3 b4 : Nat), Below w.heap.size w W1 ∧ MeantIs W1 b1 b2 b3 b4 l k ∧ Below W1.heap.size W1 w4 ∧ W1.heap.size ≤ sb ∧ q ≠ sb ∧ q < w4.heap.size ∧ ScBox w4 sb a1 a2 a3 none k.ins.length k.tbs.length k.yrs.length 0 c1 c2 c3 0 b1 b2 b3 b4 ∧ w4.frozen? ⟨sb, 7, none⟩ = false ∧ w4.cell? ⟨q, 0, none⟩ = some (.pointer (some ⟨sb, 0, none⟩)) ∧ w4.cell? ⟨w.heap.size, 0, none⟩ = some (.slice a n cap)
def scO (a1 a2 a3 : Option Addr) (n1 n2 n3 c1 c2 c3 b1 b2 b3 b4 : Nat) : Obj := .cells #[.slice a1 n1 c1, .slice a2 n2 c2, .slice a3 n3 c3, .map (some b1), .map (some b2), .map (some b3), .map (some b4), .slice none 0 0] 98
theorem ScBox.made (w : World) (a1 a2 a3 : Option Addr) (n1 n2 n3 c1 c2 c3 b1 b2 b3 b4 : Nat) : ScBox (w.alloc (scO a1 a2 a3 n1 n2 n3 c1 c2 c3 b1 b2 b3 b4)) w.heap.size a1 a2 a3 none n1 n2 n3 0 c1 c2 c3 0 b1 b2 b3 b4 ∧ (w.alloc (scO a1 a2 a3 n1 n2 n3 c1 c2 c3 b1 b2 b3 b4)).frozen? ⟨w.heap.size, 7, none⟩ = false := by
 unfold scO
 refine ⟨⟨?_, ?_, ?_, ?_, ?_, ?_, ?_, ?_, ?_⟩, ?_⟩ <;> simp
theorem scAt_a {w X : World} {q sb : Nat} {a : Option Addr} {n cap : Nat} {a1 a2 a3 : Option Addr} {n1 n2 n3 c1 c2 c3 b1 b2 b3 b4 : Nat} {l : List Ln} {k : Kn} (h1 : k.ins.length = n1) (h2 : k.tbs.length = n2) (h3 : k.yrs.length = n3) (hsb : X.heap.size = sb) (hb : Below w.heap.size w X) (hm : MeantIs X b1 b2 b3 b4 l k) (hq : X.cell? ⟨q, 0, none⟩ = some (.pointer (some ⟨sb, 0, none⟩))) (hp : X.cell? ⟨w.heap.size, 0, none⟩ = some (.slice a n cap)) :
 ScAt w (X.alloc (scO a1 a2 a3 n1 n2 n3 c1 c2 c3 b1 b2 b3 b4)) q sb a n cap a1 a2 a3 c1 c2 c3 l k := by
 subst h1 h2 h3 hsb
 have hql : q < X.heap.size := blt_of_cell hq
 obtain ⟨s1, s2⟩ := ScBox.made X a1 a2 a3 k.ins.length k.tbs.length k.yrs.length c1 c2 c3 b1 b2 b3 b4
 have e1 := kbelow_box X (scO a1 a2 a3 k.ins.length k.tbs.length k.yrs.length c1 c2 c3 b1 b2 b3 b4)
 exact ⟨X, b1, b2, b3, b4, hb, hm, e1, Nat.le_refl _, by omega, Nat.lt_of_lt_of_le hql e1.size, s1, s2, (e1.cell (p := ⟨q, 0, none⟩) hql).trans hq, (e1.cell (p := ⟨w.heap.size, 0, none⟩) (blt_of_cell hp)).trans hp⟩
theorem scAt_b {w w3 : World} {a : Option Addr} {n cap : Nat} {a1 a2 a3 : Option Addr} {n1 n2 n3 c1 c2 c3 b1 b2 b3 b4 : Nat} {l : List Ln} {k : Kn} {T : TypeId} (h1 : k.ins.length = n1) (h2 : k.tbs.length = n2) (h3 : k.yrs.length = n3) (hb : Below w.heap.size w w3) (hm : MeantIs w3 b1 b2 b3 b4 l k) (hp : w3.cell? ⟨w.heap.size, 0, none⟩ = some (.slice a n cap)) :
 ScAt w ((w3.alloc (scO a1 a2 a3 n1 n2 n3 c1 c2 c3 b1 b2 b3 b4)).alloc (.cells #[.pointer (some ⟨w3.heap.size, 0, none⟩)] T)) (w3.heap.size + 1) w3.heap.size a n cap a1 a2 a3 c1 c2 c3 l k := by
 subst h1 h2 h3
 obtain ⟨s1, s2⟩ := ScBox.made w3 a1 a2 a3 k.ins.length k.tbs.length k.yrs.length c1 c2 c3 b1 b2 b3 b4
 have e1 := kbelow_box w3 (scO a1 a2 a3 k.ins.length k.tbs.length k.yrs.length c1 c2 c3 b1 b2 b3 b4)
 have e2 := kbelow_box (w3.alloc (scO a1 a2 a3 k.ins.length k.tbs.length k.yrs.length c1 c2 c3 b1 b2 b3 b4)) (.cells #[.pointer (some ⟨w3.heap.size, 0, none⟩)] T)
 have e3 := e1.trans (e2.mono e1.size)
 have hsz : (w3.alloc (scO a1 a2 a3 k.ins.length k.tbs.length k.yrs.length c1 c2 c3 b1 b2 b3 b4)).heap.size = w3.heap.size + 1 := by simp
 refine ⟨w3, b1, b2, b3, b4, hb, hm, e3, Nat.le_refl _, by omega, by simp, s1.below e2, (e2.frozen (p := ⟨w3.heap.size, 7, none⟩) s1.1).trans s2, ?_, (e3.cell (p := ⟨w.heap.size, 0, none⟩) (blt_of_cell hp)).trans hp⟩
 rw [← hsz]
 simp
def S4 (b : Nat) (a : Option Addr) (n cap : Nat) (a1 a2 a3 : Option Addr) (n1 n2 n3 c1 c2 c3 : Nat) (W : World) : Prop := W.cell? ⟨b, 0, none⟩ = some (.slice a n cap) ∧ W.cell? ⟨b + 1, 0, none⟩ = some (.slice a1 n1 c1) ∧ W.cell? ⟨b + 1, 1, none⟩ = some (.slice a2 n2 c2) ∧ W.cell? ⟨b + 1, 2, none⟩ = some (.slice a3 n3 c3)
theorem S4.below {b : Nat} {a : Option Addr} {n cap : Nat} {a1 a2 a3 : Option Addr} {n1 n2 n3 c1 c2 c3 : Nat} {W W' : World} (h : S4 b a n cap a1 a2 a3 n1 n2 n3 c1 c2 c3 W) (hb : Below W.heap.size W W') : S4 b a n cap a1 a2 a3 n1 n2 n3 c1 c2 c3 W' := by
 obtain ⟨h0, h1, h2, h3⟩ := h
 exact ⟨(hb.cell (p := ⟨b, 0, none⟩) (blt_of_cell h0)).trans h0, (hb.cell (p := ⟨b + 1, 0, none⟩) (blt_of_cell h1)).trans h1, (hb.cell (p := ⟨b + 1, 1, none⟩) (blt_of_cell h2)).trans h2, (hb.cell (p := ⟨b + 1, 2, none⟩) (blt_of_cell h3)).trans h3⟩
theorem S4.alloc {b : Nat} {a : Option Addr} {n cap : Nat} {a1 a2 a3 : Option Addr} {n1 n2 n3 c1 c2 c3 : Nat} {W : World} (h : S4 b a n cap a1 a2 a3 n1 n2 n3 c1 c2 c3 W) (o : Obj) : S4 b a n cap a1 a2 a3 n1 n2 n3 c1 c2 c3 (W.alloc o) := h.below (kbelow_box W o)
theorem S4.set {b : Nat} {a : Option Addr} {n cap : Nat} {a1 a2 a3 : Option Addr} {n1 n2 n3 c1 c2 c3 : Nat} {W : World} (h : S4 b a n cap a1 a2 a3 n1 n2 n3 c1 c2 c3 W) {q : Nat} (hq : b + 1 < q) (v : Value) : S4 b a n cap a1 a2 a3 n1 n2 n3 c1 c2 c3 (W.setCell ⟨q, 0, none⟩ v) := by
 obtain ⟨h0, h1, h2, h3⟩ := h
 exact ⟨(World.cell?_setCell_far W ⟨q, 0, none⟩ ⟨b, 0, none⟩ v (by show q ≠ b; omega)).trans h0, (World.cell?_setCell_far W ⟨q, 0, none⟩ ⟨b + 1, 0, none⟩ v (by show q ≠ b + 1; omega)).trans h1, (World.cell?_setCell_far W ⟨q, 0, none⟩ ⟨b + 1, 1, none⟩ v (by show q ≠ b + 1; omega)).trans h2, (World.cell?_setCell_far W ⟨q, 0, none⟩ ⟨b + 1, 2, none⟩ v (by show q ≠ b + 1; omega)).trans h3⟩
set_option maxRecDepth 100000 in
set_option maxHeartbeats 1000000 in
theorem VLines_any (a : Option Addr) (n cap : Nat) (l : List Ln) (a1 a2 a3 : Option Addr) (n1 n2 n3 c1 c2 c3 : Nat) (k : Kn) (w : World) (hS : Shp w) (hl : CameL w a l) (hn : l.length = n) (hm : n ≤ maxLen) (hc : CameK w a1 a2 a3 k) (h1 : k.ins.length = n1) (h2 : k.tbs.length = n2) (h3 : k.yrs.length = n3) :
 Calls Tryz.prog 16 #[.slice a n cap, .agg #[.slice a1 n1 c1, .slice a2 n2 c2, .slice a3 n3 c3]] w fun e w' => linesR l k w e w' := by
 have HM := Lib.hid hm
 have HL := Lib.hid hl
 have HN := Lib.hid hn
 have HC := Lib.hid hc
 have HS := Lib.hid hS
 have H1 := Lib.hid h1
 have H2 := Lib.hid h2
 have H3 := Lib.hid h3
 clear hl hn hc h1 h2 h3 hm hS
 have HB0 := Lib.hid ((kbelow_box w (.cells #[.slice a n cap] 22)).trans ((kbelow_box (w.alloc (.cells #[.slice a n cap] 22)) (.cells #[.slice a1 n1 c1, .slice a2 n2 c2, .slice a3 n3 c3] 26)).mono (kbelow_box w (.cells #[.slice a n cap] 22)).size))
 have z0 : ((w.alloc (.cells #[.slice a n cap] 22)).alloc (.cells #[.slice a1 n1 c1, .slice a2 n2 c2, .slice a3 n3 c3] 26)).cell? ⟨w.heap.size, 0, none⟩ = some (.slice a n cap) := by simp
 have z1 : ((w.alloc (.cells #[.slice a n cap] 22)).alloc (.cells #[.slice a1 n1 c1, .slice a2 n2 c2, .slice a3 n3 c3] 26)).cell? ⟨w.heap.size + 1, 0, none⟩ = some (.slice a1 n1 c1) := by simp
 have z2 : ((w.alloc (.cells #[.slice a n cap] 22)).alloc (.cells #[.slice a1 n1 c1, .slice a2 n2 c2, .slice a3 n3 c3] 26)).cell? ⟨w.heap.size + 1, 1, none⟩ = some (.slice a2 n2 c2) := by simp
 have z3 : ((w.alloc (.cells #[.slice a n cap] 22)).alloc (.cells #[.slice a1 n1 c1, .slice a2 n2 c2, .slice a3 n3 c3] 26)).cell? ⟨w.heap.size + 1, 2, none⟩ = some (.slice a3 n3 c3) := by simp
 have hz : ((w.alloc (.cells #[.slice a n cap] 22)).alloc (.cells #[.slice a1 n1 c1, .slice a2 n2 c2, .slice a3 n3 c3] 26)).heap.size = w.heap.size + 2 := by simp
 go_enter Tryz.func16, Tryz.ntmps16
 go_wp2_with fail
 generalize ((w.alloc (.cells #[.slice a n cap] 22)).alloc (.cells #[.slice a1 n1 c1, .slice a2 n2 c2, .slice a3 n3 c3] 26)) = wa at *
 refine (Lines_any a n cap l a1 a2 a3 n1 n2 n3 c1 c2 c3 k wa (HS.out.below HB0.out) (HL.out.below HB0.out) HN.out HM.out (HC.out.below HB0.out) H1.out H2.out H3.out).mono ?_
 rintro e w1 ⟨i, er, rfl, hbi, hb1⟩
 have HB1 := Lib.hid (HB0.out.trans (hb1.mono HB0.out.size))
 have HI := Lib.hid hbi
 have x0 := (hb1.cell (p := ⟨w.heap.size, 0, none⟩) (show w.heap.size < wa.heap.size by omega)).trans z0
 have x1 := (hb1.cell (p := ⟨w.heap.size + 1, 0, none⟩) (show w.heap.size + 1 < wa.heap.size by omega)).trans z1
 have x2 := (hb1.cell (p := ⟨w.heap.size + 1, 1, none⟩) (show w.heap.size + 1 < wa.heap.size by omega)).trans z2
 have x3 := (hb1.cell (p := ⟨w.heap.size + 1, 2, none⟩) (show w.heap.size + 1 < wa.heap.size by omega)).trans z3
 have hs1 : w.heap.size + 2 ≤ w1.heap.size := by have := hb1.size; omega
 have HX1 : Hid (S4 w.heap.size a n cap a1 a2 a3 n1 n2 n3 c1 c2 c3 w1) := ⟨x0, x1, x2, x3⟩
 clear hb1 hbi z0 z1 z2 z3 hz HB0
 by_cases h0 : er = 0
 ·have HE : Hid (linesE l = 0 ∧ knE k = 0 ∧ ∀ j, j < l.length → lineOk l k j = 0) := by
   rcases HI.out with ⟨q1, _, q2⟩ | ⟨_, q1, _, q2⟩ | ⟨q1, q2, ⟨_, _, q3⟩ | ⟨_, _, _, _, q, _⟩⟩
   ·exact absurd (q2.symm.trans h0) q1
   ·exact absurd (q2.symm.trans h0) q1
   ·exact ⟨q1, q2, q3⟩
   ·exact absurd h0 q
  have HI0 : Hid (BindIs l k 0 0) := .inr (.inr ⟨HE.out.1, HE.out.2.1, .inl ⟨rfl, rfl, HE.out.2.2⟩⟩)
  clear HI
  subst h0
  have h40 : n ≤ 40 := by have := linesE_40 HE.out.1; have := HN.out; omega
  have h30 := knE_30 HE.out.2.1
  have HLF : Hid (∀ j, j < n → (lnth l j).name.size ≤ maxLen) := fun j hj => by
   obtain ⟨_, _, _, h⟩ := HL.out.open HN.out (by omega)
   obtain ⟨_, _, _, h, _⟩ := h w (Below.refl _ _) j hj
   exact h
  have HTF : Hid (∀ j, j < n2 → (tnth k.tbs j).name.size ≤ maxLen) := fun j hj => by
   obtain ⟨_, _, _, h⟩ := HC.out.2.1.open H2.out (by omega)
   obtain ⟨_, _, _, _, _, h, _⟩ := h w (Below.refl _ _) j hj
   exact h
  have HME : Hid (∀ W, Below w.heap.size w W → Calls Tryz.prog 24 #[.slice a n cap, .agg #[.slice a1 n1 c1, .slice a2 n2 c2, .slice a3 n3 c3]] W fun e w' => MeantRet W l k e w') := fun W hW =>
   meantIn_any a n cap l a1 a2 a3 n1 n2 n3 c1 c2 c3 k W (HL.out.below hW) HN.out h40 HLF.out (HC.out.below hW) HTF.out H1.out H2.out H3.out (by have := H1.out; omega) (by have := H2.out; omega) (by have := H3.out; omega)
  clear HLF HTF
  go_wp2_with fail
  refine wp_region_held_drew (S := fun w' => w'.cell? ⟨w.heap.size, 0, none⟩ = some (.slice a n cap) ∧ w'.cell? ⟨w.heap.size + 1, 0, none⟩ = some (.slice a1 n1 c1) ∧ w'.cell? ⟨w.heap.size + 1, 1, none⟩ = some (.slice a2 n2 c2) ∧ w'.cell? ⟨w.heap.size + 1, 2, none⟩ = some (.slice a3 n3 c3)) (by kernel_rfl) ?_ (fun hHeld => ?_)
  ·exact ⟨x0, x1, x2, x3⟩
  refine wpAnyH_take (i := 0) (oi := _) (v := .agg #[.slice a1 n1 c1, .slice a2 n2 c2, .slice a3 n3 c3]) rfl (by kernel_rfl) (by kernel_rfl) (by kernel_rfl) (fun _ _ _ h => h) (Or.inl ⟨by rfl, fun w hSw => ?_⟩) (by assumption) ?_
  ·((try dsimp only at hSw); go_simp; try with_reducible rfl)
  try simp only [Act.put, List.setIfInBounds_toArray, List.set_cons_zero, List.set_cons_succ]
  refine wpAnyH_take (i := 1) (oi := _) (v := .slice a n cap) rfl (by kernel_rfl) (by kernel_rfl) (by kernel_rfl) (fun _ _ _ h => h) (Or.inl ⟨by rfl, fun w hSw => ?_⟩) (by assumption) ?_
  ·((try dsimp only at hSw); go_simp; try with_reducible rfl)
  try simp only [Act.put, List.setIfInBounds_toArray, List.set_cons_zero, List.set_cons_succ]
  refine wpAnyH_take (i := 2) (oi := _) (v := .agg #[.slice a1 n1 c1, .slice a2 n2 c2, .slice a3 n3 c3]) rfl (by kernel_rfl) (by kernel_rfl) (by kernel_rfl) (fun _ _ _ h => h) (Or.inl ⟨by rfl, fun w hSw => ?_⟩) (by assumption) ?_
  ·((try dsimp only at hSw); go_simp; try with_reducible rfl)
  try simp only [Act.put, List.setIfInBounds_toArray, List.set_cons_zero, List.set_cons_succ]
  refine wpAnyH_ready (rs := [3, 6]) (by kernel_rfl) (by simp) ?_
  refine AllReadyH.cons rfl (fun K hK => ?_) (AllReadyH.cons rfl (fun K hK => ?_) AllReadyH.nil)
  ·go_simp
   refine (HME.out _ (kbelow_dN HB1.out 1)).mono ?_
   rintro e w3 ⟨b1, b2, b3, b4, rfl, hb1, hb12, hb23, hb34, hmt, hb3⟩
   have HB3 := Lib.hid ((kbelow_dN HB1.out 1).trans (hb3.mono (kbelow_dN HB1.out 1).size))
   have HMT := Lib.hid hmt
   have HX3 := Lib.hid (nfrom_drew hb3)
   have HV := Lib.hid ((HX1.out).below HX3.out)
   clear hmt hb3
   try go_wp2_with fail
   refine hK.out _ _ HV.out (fun hHeld => ?_)
   clear hK K
   try simp only [Act.put, List.setIfInBounds_toArray, List.set_cons_zero, List.set_cons_succ]
   refine wpAnyH_take (i := 4) (oi := _) (v := .agg #[.slice a1 n1 c1, .slice a2 n2 c2, .slice a3 n3 c3, .map (some b1), .map (some b2), .map (some b3), .map (some b4), .slice none 0 0]) rfl (by kernel_rfl) (by kernel_rfl) (by kernel_rfl) (fun _ _ _ h => h) (Or.inl ⟨by rfl, fun w hSw => ?_⟩) (by assumption) ?_
   ·((try dsimp only at hSw); go_simp; try with_reducible rfl)
   try simp only [Act.put, List.setIfInBounds_toArray, List.set_cons_zero, List.set_cons_succ]
   have hs3 : w.heap.size + 2 ≤ w3.heap.size := Nat.le_trans hs1 HX3.out.size
   refine wpAnyH_ready (rs := [5, 6]) (by kernel_rfl) (by simp) ?_
   refine AllReadyH.cons rfl (fun K hK => ?_) (AllReadyH.cons rfl (fun K hK => ?_) AllReadyH.nil)
   ·go_simp
    refine hK.out _ _ (HV.out.alloc _) (fun hHeld => ?_)
    clear hK K
    try simp only [Act.put, List.setIfInBounds_toArray, List.set_cons_zero, List.set_cons_succ]
    refine wpAnyH_ready (rs := [6]) (by kernel_rfl) (by simp) ?_
    refine AllReadyH.cons rfl (fun K hK => ?_) AllReadyH.nil
    go_simp
    refine hK.out _ _ ((HV.out.alloc _).alloc _) (fun hHeld => ?_)
    clear hK K
    try simp only [Act.put, List.setIfInBounds_toArray, List.set_cons_zero, List.set_cons_succ]
    refine wpAnyH_ready (rs := [7]) (by kernel_rfl) (by simp) ?_
    refine AllReadyH.cons rfl (fun K hK => ?_) AllReadyH.nil
    go_simp
    refine hK.out _ _ ((HV.out.alloc _).alloc _) (fun hHeld => ?_)
    clear hK K
    refine wpAnyH_done (by kernel_rfl) ?_ _
    have HT := Lib.hid (scAt_b (T := 96) (a := a) (n := n) (cap := cap) (a1 := a1) (a2 := a2) (a3 := a3) (c1 := c1) (c2 := c2) (c3 := c3) H1.out H2.out H3.out HB3.out HMT.out HV.out.1)
    simp only [scO] at HT
    generalize ((w3.alloc (.cells #[.slice a1 n1 c1, .slice a2 n2 c2, .slice a3 n3 c3, .map (some b1), .map (some b2), .map (some b3), .map (some b4), .slice none 0 0] 98)).alloc (.cells #[.pointer (some ⟨w3.heap.size, 0, none⟩)] 96)) = w4 at HT ⊢
    obtain ⟨W1, m1, m2, m3, m4, t1, t2, t3, t4, t5, t6, t7, t8, t9, t10⟩ := HT.out
    have HT1 := Lib.hid t1
    have HT2 := Lib.hid t2
    have HT3 := Lib.hid t3
    have e4 := kbelow_box w4 (.cells #[.int .i64 0] 28)
    have HL0 : Hid (LnsAt W1 (w4.heap.size + 1) w3.heap.size (w3.heap.size + 1) w4.heap.size k a1 a2 a3 c1 c2 c3 m1 m2 m3 m4 [] (w4.alloc (.cells #[.int .i64 0] 28))) := ⟨none, 0, t7.below e4, (e4.frozen (p := ⟨w3.heap.size, 7, none⟩) t7.1).trans t8, (e4.cell (p := ⟨(w3.heap.size + 1), 0, none⟩) t6).trans t9, by simp, by simp, t3.trans (e4.mono t3.size), Grow.nil _ _, by simp⟩
    have hsb4 := t7.1
    have HDO := Lib.hid (lines1_any l k HE.out.1 HE.out.2.2 HE.out.2.1 W1 a n cap w.heap.size w3.heap.size (w3.heap.size + 1) w4.heap.size (w4.heap.size + 1) a1 a2 a3 c1 c2 c3 m1 m2 m3 m4 (w4.alloc (.cells #[.int .i64 0] 28)) (HL.out.below t1) HN.out (HC.out.1.below t1) (HC.out.2.1.below t1) (HC.out.2.2.1.below t1) t2 ((e4.cell (p := ⟨w.heap.size, 0, none⟩) (blt_of_cell t10)).trans t10) HL0.out t4 t5 (by omega) (by omega) (by omega) (by omega))
    have hwW : w.heap.size ≤ w4.heap.size := Nat.le_trans t1.size t3.size
    clear t1 t2 t3 t7 t8 t9 t10 e4 HL0
    go_wp2_with fail
    refine (Try_any 45 #[.pointer (some ⟨w.heap.size, 0, none⟩), .pointer (some ⟨(w3.heap.size + 1), 0, none⟩)] w4 (fun wx => ∃ vs, LnsAt W1 (w4.heap.size + 1) w3.heap.size (w3.heap.size + 1) w4.heap.size k a1 a2 a3 c1 c2 c3 m1 m2 m3 m4 vs wx ∧ linesV l k n = (vs, true)) (fun wx => ∃ vs, LnsAt W1 (w4.heap.size + 1) w3.heap.size (w3.heap.size + 1) w4.heap.size k a1 a2 a3 c1 c2 c3 m1 m2 m3 m4 vs wx ∧ linesV l k n = (vs, false)) (fun _ => by simp [go_sem]) (HDO.out.mono ?_)).mono ?_
    ·rintro e w5 ⟨vs, hat, h⟩
     have hat' := hat
     obtain ⟨_, _, _, _, _, g4, g5, _⟩ := hat
     refine ⟨?_, g4, g5⟩
     rcases h with ⟨rfl, h⟩ | ⟨rfl, h⟩
     ·exact .inl ⟨rfl, vs, hat', h⟩
     ·exact .inr ⟨rfl, vs, hat', h⟩
    rintro e w5 (⟨rfl, w6, ⟨vs, hat, hlv⟩, rfl⟩ | ⟨rfl, w6, ⟨vs, hat, hlv⟩, rfl⟩)
    all_goals rw [← HN.out] at hlv
    all_goals have HLV := Lib.hid hlv
    all_goals obtain ⟨av, cv, g1, g2, g3, g4, g5, g6, g7, g8⟩ := hat
    all_goals have HG := Lib.hid g7
    all_goals have HB6 := Lib.hid (HT1.out.trans (g6.mono HT1.out.size))
    ·have r0 : (w6.setCell ⟨w4.heap.size, 0, none⟩ (.int .i64 0)).cell? ⟨(w3.heap.size + 1), 0, none⟩ = some (.pointer (some ⟨w3.heap.size, 0, none⟩)) := (World.cell?_setCell_far w6 ⟨w4.heap.size, 0, none⟩ ⟨(w3.heap.size + 1), 0, none⟩ _ (by show w4.heap.size ≠ (w3.heap.size + 1); omega)).trans g3
     have r7 : (w6.setCell ⟨w4.heap.size, 0, none⟩ (.int .i64 0)).cell? ⟨w3.heap.size, 7, none⟩ = some (.slice av vs.length cv) := (World.cell?_setCell_far w6 ⟨w4.heap.size, 0, none⟩ ⟨w3.heap.size, 7, none⟩ _ (by show w4.heap.size ≠ w3.heap.size; omega)).trans g1.2.2.2.2.2.2.2.2
     clear g1 g2 g3 g4 g5 g6 g7 g8 hlv
     go_wp2_with fail
     go_ret3
     exact ⟨HB6.out.setCell hwW _, .inr (.inr ⟨HI0.out, vs, _, w4.heap.size + 1, HLV.out, by omega, vgrow_put HG.out (by show w4.heap.size < w4.heap.size + 1; omega) _, rfl⟩)⟩
    ·have r0 : (w6.setCell ⟨w4.heap.size, 0, none⟩ (.int .i64 3)).cell? ⟨(w3.heap.size + 1), 0, none⟩ = some (.pointer (some ⟨w3.heap.size, 0, none⟩)) := (World.cell?_setCell_far w6 ⟨w4.heap.size, 0, none⟩ ⟨(w3.heap.size + 1), 0, none⟩ _ (by show w4.heap.size ≠ (w3.heap.size + 1); omega)).trans g3
     have r7 : (w6.setCell ⟨w4.heap.size, 0, none⟩ (.int .i64 3)).cell? ⟨w3.heap.size, 7, none⟩ = some (.slice av vs.length cv) := (World.cell?_setCell_far w6 ⟨w4.heap.size, 0, none⟩ ⟨w3.heap.size, 7, none⟩ _ (by show w4.heap.size ≠ w3.heap.size; omega)).trans g1.2.2.2.2.2.2.2.2
     clear g1 g2 g3 g4 g5 g6 g7 g8 hlv
     go_wp2_with fail
     go_quiet (fail)
     go_wp2_with fail
     go_ret3
     exact ⟨kbelow_dN (show Below w.heap.size w (w6.setCell ⟨w4.heap.size, 0, none⟩ (.int .i64 3)) from HB6.out.setCell hwW _) _, .inr (.inl ⟨HI0.out, vs, HLV.out, rfl⟩)⟩
   ·go_simp
    refine hK.out _ _ (HV.out.alloc _) (fun hHeld => ?_)
    clear hK K
    try simp only [Act.put, List.setIfInBounds_toArray, List.set_cons_zero, List.set_cons_succ]
    refine wpAnyH_ready (rs := [5]) (by kernel_rfl) (by simp) ?_
    refine AllReadyH.cons rfl (fun K hK => ?_) AllReadyH.nil
    go_simp
    refine hK.out _ _ ((HV.out.alloc _).alloc _) (fun hHeld => ?_)
    clear hK K
    try simp only [Act.put, List.setIfInBounds_toArray, List.set_cons_zero, List.set_cons_succ]
    refine wpAnyH_ready (rs := [7]) (by kernel_rfl) (by simp) ?_
    refine AllReadyH.cons rfl (fun K hK => ?_) AllReadyH.nil
    go_simp
    refine hK.out _ _ ((HV.out.alloc _).alloc _) (fun hHeld => ?_)
    clear hK K
    refine wpAnyH_done (by kernel_rfl) ?_ _
    have HT := Lib.hid (scAt_a (X := w3.alloc (.cells #[.pointer (some ⟨w3.heap.size + 1, 0, none⟩)] 96)) (q := w3.heap.size) (a := a) (n := n) (cap := cap) (a1 := a1) (a2 := a2) (a3 := a3) (c1 := c1) (c2 := c2) (c3 := c3) H1.out H2.out H3.out (sb := w3.heap.size + 1) (by simp) (HB3.out.alloc HB3.out.size _) (HMT.out.below (kbelow_box w3 _)) (by simp) (HV.out.alloc _).1)
    simp only [scO] at HT
    generalize ((w3.alloc (.cells #[.pointer (some ⟨w3.heap.size + 1, 0, none⟩)] 96)).alloc (.cells #[.slice a1 n1 c1, .slice a2 n2 c2, .slice a3 n3 c3, .map (some b1), .map (some b2), .map (some b3), .map (some b4), .slice none 0 0] 98)) = w4 at HT ⊢
    obtain ⟨W1, m1, m2, m3, m4, t1, t2, t3, t4, t5, t6, t7, t8, t9, t10⟩ := HT.out
    have HT1 := Lib.hid t1
    have HT2 := Lib.hid t2
    have HT3 := Lib.hid t3
    have e4 := kbelow_box w4 (.cells #[.int .i64 0] 28)
    have HL0 : Hid (LnsAt W1 (w4.heap.size + 1) (w3.heap.size + 1) w3.heap.size w4.heap.size k a1 a2 a3 c1 c2 c3 m1 m2 m3 m4 [] (w4.alloc (.cells #[.int .i64 0] 28))) := ⟨none, 0, t7.below e4, (e4.frozen (p := ⟨(w3.heap.size + 1), 7, none⟩) t7.1).trans t8, (e4.cell (p := ⟨w3.heap.size, 0, none⟩) t6).trans t9, by simp, by simp, t3.trans (e4.mono t3.size), Grow.nil _ _, by simp⟩
    have hsb4 := t7.1
    have HDO := Lib.hid (lines1_any l k HE.out.1 HE.out.2.2 HE.out.2.1 W1 a n cap w.heap.size (w3.heap.size + 1) w3.heap.size w4.heap.size (w4.heap.size + 1) a1 a2 a3 c1 c2 c3 m1 m2 m3 m4 (w4.alloc (.cells #[.int .i64 0] 28)) (HL.out.below t1) HN.out (HC.out.1.below t1) (HC.out.2.1.below t1) (HC.out.2.2.1.below t1) t2 ((e4.cell (p := ⟨w.heap.size, 0, none⟩) (blt_of_cell t10)).trans t10) HL0.out t4 t5 (by omega) (by omega) (by omega) (by omega))
    have hwW : w.heap.size ≤ w4.heap.size := Nat.le_trans t1.size t3.size
    clear t1 t2 t3 t7 t8 t9 t10 e4 HL0
    go_wp2_with fail
    refine (Try_any 45 #[.pointer (some ⟨w.heap.size, 0, none⟩), .pointer (some ⟨w3.heap.size, 0, none⟩)] w4 (fun wx => ∃ vs, LnsAt W1 (w4.heap.size + 1) (w3.heap.size + 1) w3.heap.size w4.heap.size k a1 a2 a3 c1 c2 c3 m1 m2 m3 m4 vs wx ∧ linesV l k n = (vs, true)) (fun wx => ∃ vs, LnsAt W1 (w4.heap.size + 1) (w3.heap.size + 1) w3.heap.size w4.heap.size k a1 a2 a3 c1 c2 c3 m1 m2 m3 m4 vs wx ∧ linesV l k n = (vs, false)) (fun _ => by simp [go_sem]) (HDO.out.mono ?_)).mono ?_
    ·rintro e w5 ⟨vs, hat, h⟩
     have hat' := hat
     obtain ⟨_, _, _, _, _, g4, g5, _⟩ := hat
     refine ⟨?_, g4, g5⟩
     rcases h with ⟨rfl, h⟩ | ⟨rfl, h⟩
     ·exact .inl ⟨rfl, vs, hat', h⟩
     ·exact .inr ⟨rfl, vs, hat', h⟩
    rintro e w5 (⟨rfl, w6, ⟨vs, hat, hlv⟩, rfl⟩ | ⟨rfl, w6, ⟨vs, hat, hlv⟩, rfl⟩)
    all_goals rw [← HN.out] at hlv
    all_goals have HLV := Lib.hid hlv
    all_goals obtain ⟨av, cv, g1, g2, g3, g4, g5, g6, g7, g8⟩ := hat
    all_goals have HG := Lib.hid g7
    all_goals have HB6 := Lib.hid (HT1.out.trans (g6.mono HT1.out.size))
    ·have r0 : (w6.setCell ⟨w4.heap.size, 0, none⟩ (.int .i64 0)).cell? ⟨w3.heap.size, 0, none⟩ = some (.pointer (some ⟨(w3.heap.size + 1), 0, none⟩)) := (World.cell?_setCell_far w6 ⟨w4.heap.size, 0, none⟩ ⟨w3.heap.size, 0, none⟩ _ (by show w4.heap.size ≠ w3.heap.size; omega)).trans g3
     have r7 : (w6.setCell ⟨w4.heap.size, 0, none⟩ (.int .i64 0)).cell? ⟨(w3.heap.size + 1), 7, none⟩ = some (.slice av vs.length cv) := (World.cell?_setCell_far w6 ⟨w4.heap.size, 0, none⟩ ⟨(w3.heap.size + 1), 7, none⟩ _ (by show w4.heap.size ≠ (w3.heap.size + 1); omega)).trans g1.2.2.2.2.2.2.2.2
     clear g1 g2 g3 g4 g5 g6 g7 g8 hlv
     go_wp2_with fail
     go_ret3
     exact ⟨HB6.out.setCell hwW _, .inr (.inr ⟨HI0.out, vs, _, w4.heap.size + 1, HLV.out, by omega, vgrow_put HG.out (by show w4.heap.size < w4.heap.size + 1; omega) _, rfl⟩)⟩
    ·have r0 : (w6.setCell ⟨w4.heap.size, 0, none⟩ (.int .i64 3)).cell? ⟨w3.heap.size, 0, none⟩ = some (.pointer (some ⟨(w3.heap.size + 1), 0, none⟩)) := (World.cell?_setCell_far w6 ⟨w4.heap.size, 0, none⟩ ⟨w3.heap.size, 0, none⟩ _ (by show w4.heap.size ≠ w3.heap.size; omega)).trans g3
     have r7 : (w6.setCell ⟨w4.heap.size, 0, none⟩ (.int .i64 3)).cell? ⟨(w3.heap.size + 1), 7, none⟩ = some (.slice av vs.length cv) := (World.cell?_setCell_far w6 ⟨w4.heap.size, 0, none⟩ ⟨(w3.heap.size + 1), 7, none⟩ _ (by show w4.heap.size ≠ (w3.heap.size + 1); omega)).trans g1.2.2.2.2.2.2.2.2
     clear g1 g2 g3 g4 g5 g6 g7 g8 hlv
     go_wp2_with fail
     go_quiet (fail)
     go_wp2_with fail
     go_ret3
     exact ⟨kbelow_dN (show Below w.heap.size w (w6.setCell ⟨w4.heap.size, 0, none⟩ (.int .i64 3)) from HB6.out.setCell hwW _) _, .inr (.inl ⟨HI0.out, vs, HLV.out, rfl⟩)⟩
  ·go_simp
   have HVP := Lib.hid (HX1.out.alloc (.cells #[.pointer none] 96))
   have pq : (w1.alloc (.cells #[.pointer none] 96)).cell? ⟨w1.heap.size, 0, none⟩ = some (.pointer none) := by simp
   have pf : (w1.alloc (.cells #[.pointer none] 96)).frozen? ⟨w1.heap.size, 0, none⟩ = false := by simp
   have HBP := Lib.hid (HB1.out.trans ((kbelow_box w1 (.cells #[.pointer none] 96)).mono HB1.out.size))
   refine hK.out _ _ HVP.out (fun hHeld => ?_)
   clear hK K
   try simp only [Act.put, List.setIfInBounds_toArray, List.set_cons_zero, List.set_cons_succ]
   refine wpAnyH_ready (rs := [3]) (by kernel_rfl) (by simp) ?_
   refine AllReadyH.cons rfl (fun K hK => ?_) AllReadyH.nil
   go_simp
   refine (HME.out _ (kbelow_dN HBP.out 1)).mono ?_
   rintro e w3 ⟨b1, b2, b3, b4, rfl, hb1, hb12, hb23, hb34, hmt, hb3⟩
   have HB3 := Lib.hid ((kbelow_dN HBP.out 1).trans (hb3.mono (kbelow_dN HBP.out 1).size))
   have HMT := Lib.hid hmt
   have HX3 := Lib.hid (nfrom_drew hb3)
   have HV := Lib.hid ((HVP.out).below HX3.out)
   clear hmt hb3
   try go_wp2_with fail
   refine hK.out _ _ HV.out (fun hHeld => ?_)
   clear hK K
   try simp only [Act.put, List.setIfInBounds_toArray, List.set_cons_zero, List.set_cons_succ]
   refine wpAnyH_take (i := 4) (oi := _) (v := .agg #[.slice a1 n1 c1, .slice a2 n2 c2, .slice a3 n3 c3, .map (some b1), .map (some b2), .map (some b3), .map (some b4), .slice none 0 0]) rfl (by kernel_rfl) (by kernel_rfl) (by kernel_rfl) (fun _ _ _ h => h) (Or.inl ⟨by rfl, fun w hSw => ?_⟩) (by assumption) ?_
   ·((try dsimp only at hSw); go_simp; try with_reducible rfl)
   try simp only [Act.put, List.setIfInBounds_toArray, List.set_cons_zero, List.set_cons_succ]
   have hq3 : w1.heap.size < w3.heap.size := Nat.lt_of_lt_of_le (by simp) HX3.out.size
   have hb1' : w1.heap.size < b1 := Nat.lt_of_lt_of_le (by show w1.heap.size < (w1.alloc (.cells #[.pointer none] 96)).heap.size; simp) hb1
   have yq := (HX3.out.cell (p := ⟨w1.heap.size, 0, none⟩) (blt_of_cell pq)).trans pq
   have yf := (HX3.out.frozen (p := ⟨w1.heap.size, 0, none⟩) (blt_of_cell pq)).trans pf
   clear pq pf
   refine wpAnyH_ready (rs := [5]) (by kernel_rfl) (by simp) ?_
   refine AllReadyH.cons rfl (fun K hK => ?_) AllReadyH.nil
   go_simp
   refine hK.out _ _ (HV.out.alloc _) (fun hHeld => ?_)
   clear hK K
   try simp only [Act.put, List.setIfInBounds_toArray, List.set_cons_zero, List.set_cons_succ]
   have vq := ((kbelow_box w3 (.cells #[.slice a1 n1 c1, .slice a2 n2 c2, .slice a3 n3 c3, .map (some b1), .map (some b2), .map (some b3), .map (some b4), .slice none 0 0] 98)).cell (p := ⟨w1.heap.size, 0, none⟩) (blt_of_cell yq)).trans yq
   have vf := ((kbelow_box w3 (.cells #[.slice a1 n1 c1, .slice a2 n2 c2, .slice a3 n3 c3, .map (some b1), .map (some b2), .map (some b3), .map (some b4), .slice none 0 0] 98)).frozen (p := ⟨w1.heap.size, 0, none⟩) (blt_of_cell yq)).trans yf
   refine wpAnyH_ready (rs := [7]) (by kernel_rfl) (by simp) ?_
   refine AllReadyH.cons rfl (fun K hK => ?_) AllReadyH.nil
   go_simp
   refine hK.out _ _ ((HV.out.set (q := w1.heap.size) (by omega) _).alloc _) (fun hHeld => ?_)
   clear hK K
   refine wpAnyH_done (by kernel_rfl) ?_ _
   have HT := Lib.hid (scAt_a (X := w3.setCell ⟨w1.heap.size, 0, none⟩ (.pointer (some ⟨w3.heap.size, 0, none⟩))) (q := w1.heap.size) (a := a) (n := n) (cap := cap) (a1 := a1) (a2 := a2) (a3 := a3) (c1 := c1) (c2 := c2) (c3 := c3) H1.out H2.out H3.out (sb := w3.heap.size) (by simp) (HB3.out.setCell (by show w.heap.size ≤ w1.heap.size; omega) _) ⟨HMT.out.1.set _ (by show b1 ≠ w1.heap.size; omega), HMT.out.2.1.set _ (by show b2 ≠ w1.heap.size; omega), HMT.out.2.2.1.set _ (by show b3 ≠ w1.heap.size; omega), HMT.out.2.2.2.set _ (by show b4 ≠ w1.heap.size; omega)⟩ (World.cell?_setCell_same _ _ _ yq) (HV.out.set (q := w1.heap.size) (by omega) _).1)
   simp only [scO] at HT
   clear yq yf vq vf
   generalize ((w3.setCell ⟨w1.heap.size, 0, none⟩ (.pointer (some ⟨w3.heap.size, 0, none⟩))).alloc (.cells #[.slice a1 n1 c1, .slice a2 n2 c2, .slice a3 n3 c3, .map (some b1), .map (some b2), .map (some b3), .map (some b4), .slice none 0 0] 98)) = w4 at HT ⊢
   obtain ⟨W1, m1, m2, m3, m4, t1, t2, t3, t4, t5, t6, t7, t8, t9, t10⟩ := HT.out
   have HT1 := Lib.hid t1
   have HT2 := Lib.hid t2
   have HT3 := Lib.hid t3
   have e4 := kbelow_box w4 (.cells #[.int .i64 0] 28)
   have HL0 : Hid (LnsAt W1 (w4.heap.size + 1) w3.heap.size w1.heap.size w4.heap.size k a1 a2 a3 c1 c2 c3 m1 m2 m3 m4 [] (w4.alloc (.cells #[.int .i64 0] 28))) := ⟨none, 0, t7.below e4, (e4.frozen (p := ⟨w3.heap.size, 7, none⟩) t7.1).trans t8, (e4.cell (p := ⟨w1.heap.size, 0, none⟩) t6).trans t9, by simp, by simp, t3.trans (e4.mono t3.size), Grow.nil _ _, by simp⟩
   have hsb4 := t7.1
   have HDO := Lib.hid (lines1_any l k HE.out.1 HE.out.2.2 HE.out.2.1 W1 a n cap w.heap.size w3.heap.size w1.heap.size w4.heap.size (w4.heap.size + 1) a1 a2 a3 c1 c2 c3 m1 m2 m3 m4 (w4.alloc (.cells #[.int .i64 0] 28)) (HL.out.below t1) HN.out (HC.out.1.below t1) (HC.out.2.1.below t1) (HC.out.2.2.1.below t1) t2 ((e4.cell (p := ⟨w.heap.size, 0, none⟩) (blt_of_cell t10)).trans t10) HL0.out t4 t5 (by omega) (by omega) (by omega) (by omega))
   have hwW : w.heap.size ≤ w4.heap.size := Nat.le_trans t1.size t3.size
   clear t1 t2 t3 t7 t8 t9 t10 e4 HL0
   go_wp2_with fail
   refine (Try_any 45 #[.pointer (some ⟨w.heap.size, 0, none⟩), .pointer (some ⟨w1.heap.size, 0, none⟩)] w4 (fun wx => ∃ vs, LnsAt W1 (w4.heap.size + 1) w3.heap.size w1.heap.size w4.heap.size k a1 a2 a3 c1 c2 c3 m1 m2 m3 m4 vs wx ∧ linesV l k n = (vs, true)) (fun wx => ∃ vs, LnsAt W1 (w4.heap.size + 1) w3.heap.size w1.heap.size w4.heap.size k a1 a2 a3 c1 c2 c3 m1 m2 m3 m4 vs wx ∧ linesV l k n = (vs, false)) (fun _ => by simp [go_sem]) (HDO.out.mono ?_)).mono ?_
   ·rintro e w5 ⟨vs, hat, h⟩
    have hat' := hat
    obtain ⟨_, _, _, _, _, g4, g5, _⟩ := hat
    refine ⟨?_, g4, g5⟩
    rcases h with ⟨rfl, h⟩ | ⟨rfl, h⟩
    ·exact .inl ⟨rfl, vs, hat', h⟩
    ·exact .inr ⟨rfl, vs, hat', h⟩
   rintro e w5 (⟨rfl, w6, ⟨vs, hat, hlv⟩, rfl⟩ | ⟨rfl, w6, ⟨vs, hat, hlv⟩, rfl⟩)
   all_goals rw [← HN.out] at hlv
   all_goals have HLV := Lib.hid hlv
   all_goals obtain ⟨av, cv, g1, g2, g3, g4, g5, g6, g7, g8⟩ := hat
   all_goals have HG := Lib.hid g7
   all_goals have HB6 := Lib.hid (HT1.out.trans (g6.mono HT1.out.size))
   ·have r0 : (w6.setCell ⟨w4.heap.size, 0, none⟩ (.int .i64 0)).cell? ⟨w1.heap.size, 0, none⟩ = some (.pointer (some ⟨w3.heap.size, 0, none⟩)) := (World.cell?_setCell_far w6 ⟨w4.heap.size, 0, none⟩ ⟨w1.heap.size, 0, none⟩ _ (by show w4.heap.size ≠ w1.heap.size; omega)).trans g3
    have r7 : (w6.setCell ⟨w4.heap.size, 0, none⟩ (.int .i64 0)).cell? ⟨w3.heap.size, 7, none⟩ = some (.slice av vs.length cv) := (World.cell?_setCell_far w6 ⟨w4.heap.size, 0, none⟩ ⟨w3.heap.size, 7, none⟩ _ (by show w4.heap.size ≠ w3.heap.size; omega)).trans g1.2.2.2.2.2.2.2.2
    clear g1 g2 g3 g4 g5 g6 g7 g8 hlv
    go_wp2_with fail
    go_ret3
    exact ⟨HB6.out.setCell hwW _, .inr (.inr ⟨HI0.out, vs, _, w4.heap.size + 1, HLV.out, by omega, vgrow_put HG.out (by show w4.heap.size < w4.heap.size + 1; omega) _, rfl⟩)⟩
   ·have r0 : (w6.setCell ⟨w4.heap.size, 0, none⟩ (.int .i64 3)).cell? ⟨w1.heap.size, 0, none⟩ = some (.pointer (some ⟨w3.heap.size, 0, none⟩)) := (World.cell?_setCell_far w6 ⟨w4.heap.size, 0, none⟩ ⟨w1.heap.size, 0, none⟩ _ (by show w4.heap.size ≠ w1.heap.size; omega)).trans g3
    have r7 : (w6.setCell ⟨w4.heap.size, 0, none⟩ (.int .i64 3)).cell? ⟨w3.heap.size, 7, none⟩ = some (.slice av vs.length cv) := (World.cell?_setCell_far w6 ⟨w4.heap.size, 0, none⟩ ⟨w3.heap.size, 7, none⟩ _ (by show w4.heap.size ≠ w3.heap.size; omega)).trans g1.2.2.2.2.2.2.2.2
    clear g1 g2 g3 g4 g5 g6 g7 g8 hlv
    go_wp2_with fail
    go_quiet (fail)
    go_wp2_with fail
    go_ret3
    exact ⟨kbelow_dN (show Below w.heap.size w (w6.setCell ⟨w4.heap.size, 0, none⟩ (.int .i64 3)) from HB6.out.setCell hwW _) _, .inr (.inl ⟨HI0.out, vs, HLV.out, rfl⟩)⟩
 ·have HNE := Lib.hid h0
  have h0' : decide (er = 0) = false := decide_eq_false h0
  go_wp2_with fail
  go_ret3
  exact ⟨HB1.out, .inl ⟨i, er, HNE.out, HI.out, rfl⟩⟩
end Go.Proofs.YtmlpedgcpffpnaaGreatDoor
