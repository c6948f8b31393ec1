/-
  Promise V2: what a company that may be keeps of sizes, so that it can be copied; the walks of what Open asks ahead.
  Promise V2: the walk of Open.
  What must be in any case of a house: the walk of houseBegun.
-/
import Derived.Test.YtkalfdjmklakdaaGreatDoorKW
import Derived.Test.YtkalfdjmklakdaaGreatDoorKU
import Derived.Deep.CutRange
import Derived.Deep.WholeRow
namespace Go.Proofs.YtkalfdjmklakdaaGreatDoor
open Go.RowKit
def TbSz (l : List Tb) : Prop := l.length * 40 ≤ 140737488355328 ∧ ∀ j, j < l.length → (tnth l j).bks.length * 16 ≤ 140737488355328
theorem fst_z0 {e : Int} {l : List Int} (h : fstL (e :: l) = 0) : e = 0 ∧ fstL l = 0 := by
 rw [fstL_cons] at h
 by_cases e0 : e = 0
 ·rw [if_pos e0] at h; exact ⟨e0, h⟩
 ·rw [if_neg e0] at h; exact absurd h e0
theorem ifE_z0 {b : Bool} {e : Int} (h : ifE b e = 0) (he : e ≠ 0) : b = false := by
 cases b
 ·rfl
 ·exact absurd h he
structure RightC (F : Fs) (c : Co) : Prop where
 day : Cal.dayB c.today = true
 nl : c.lns.length ≤ 19
 np : c.prs.length ≤ 20
 ln : linesE c.lns = 0
 cash : ∀ j, j < c.lns.length → cashF c j = false
 one : ∀ j, j < c.prs.length → Rn.perB (psth c.prs j).num = true ∧ (Cal.Bnk.accB (psth c.prs j).acc && Cal.Bnk.nameB (psth c.prs j).name) = true ∧ PlanIs (plOf c (psth c.prs j)) 0
 up : upPs c.prs c.prs.length = true
 num : 0 ≤ c.num ∧ c.num ≤ 999
 ae : F.ae c.K c.A c.L c.per = 0
 run : Rn.runE c.run = 0
 bad : badB c = false
 sl : Sq.Slp.slE c.sls = 0
 nob : ∀ j, j < c.sls.length → nobF c j = false
 str : ∀ j, j < c.sls.length → strF c j = false
 lat : ∀ j, j < c.sls.length → latF c j = false
 jr : Sq.Ldg.jrE c.jr = 0
 beh : behB c.jr c.today = false
theorem right_of {F : Fs} {c : Co} (h : coE F c = 0) : RightC F c := by
 rw [coE_flat] at h
 obtain ⟨h1, h⟩ := fst_z0 h
 obtain ⟨h2, h⟩ := fst_z0 h
 obtain ⟨h3, h⟩ := fst_z0 h
 obtain ⟨h4, h⟩ := fst_z0 h
 obtain ⟨h5, h⟩ := fst_z0 h
 obtain ⟨h6, h⟩ := fst_z0 h
 obtain ⟨h7, h⟩ := fst_z0 h
 obtain ⟨h8, h⟩ := fst_z0 h
 obtain ⟨h9, h⟩ := fst_z0 h
 obtain ⟨h10, h⟩ := fst_z0 h
 obtain ⟨h11, h⟩ := fst_z0 h
 obtain ⟨h12, h⟩ := fst_z0 h
 obtain ⟨h13, h⟩ := fst_z0 h
 obtain ⟨h14, h⟩ := fst_z0 h
 obtain ⟨h15, h⟩ := fst_z0 h
 obtain ⟨h16, _⟩ := fst_z0 h
 have hm := of_decide_eq_false (ifE_z0 h2 (by decide))
 refine ⟨by simpa using ifE_z0 h1 (by decide), by omega, by omega, h3, anyN_of (ifE_z0 h4 (by decide)), fun j hj => ?_, by simpa using ifE_z0 h6 (by decide), ?_, h8, h9, ifE_z0 h10 (by decide), h11, anyN_of (ifE_z0 h12 (by decide)), anyN_of (ifE_z0 h13 (by decide)), anyN_of (ifE_z0 h14 (by decide)), h15, ifE_z0 h16 (by decide)⟩
 ·have := firstE_all h5 j hj
  obtain ⟨g1, g⟩ := fst_z0 this
  obtain ⟨g2, g⟩ := fst_z0 g
  obtain ⟨g3, _⟩ := fst_z0 g
  exact ⟨by simpa using ifE_z0 g1 (by decide), by have := ifE_z0 g2 (by decide); simpa using this, F.hz _ g3⟩
 ·have := ifE_z0 h7 (by decide)
  have h' : decide (0 ≤ c.num ∧ c.num ≤ 999) = true := by
   cases e : decide (0 ≤ c.num ∧ c.num ≤ 999)
   ·rw [e] at this; cases this
   ·rfl
  exact of_decide_eq_true h'
theorem plan_small {p : Pl} (h : PlanIs p 0) : p.ins.length ≤ 30 ∧ ∀ j, j < p.ins.length → (inth p.ins j).rows.length ≤ 50 := by
 rcases h with ⟨a, b⟩ | ⟨_, a, b⟩ | ⟨_, _, _, b⟩ | ⟨_, _, _, _, a, b⟩ | ⟨_, _, _, h30, h0, _⟩
 ·exact absurd b.symm a
 ·exact absurd b.symm a
 ·omega
 ·exact absurd b.symm a
 ·exact ⟨h30, fun j hj => (Hst.histE_ok (hisE_all h0 j hj)).1⟩
theorem slW_tot {r : Sq.Slp.Sl} (h : Sq.Slp.slW r = 0) : r.tot.length ≤ 30 := by
 unfold Sq.Slp.slW at h
 split at h
 ·omega
 ·split at h <;> omega
theorem enE_ps {r : Sq.Ldg.En} (h : Sq.Ldg.enE r = 0) : r.ps.length ≤ 20 := by
 unfold Sq.Ldg.enE at h
 split at h
 ·omega
 ·split at h <;> omega
theorem copOk {F : Fs} {c : Co} {s : Ly} {w : World} (hc : CameC w s c) (hr : RightC F c) (ht : TbSz c.tbs) : CopOk c s w := by
 have hpt : ∀ j, j < s.nl → (lnth c.lns j).ex.parts ≤ 4000 := fun j hj => by
  have h := hr.ln
  unfold linesE at h
  split at h
  ·omega
  ·next hm =>
   have h1 : sumP c.lns c.lns.length ≤ 4000 := by omega
   have := sumN_one (f := fun j => (lnth c.lns j).ex.parts) (m := c.lns.length) (j := j) (by rw [hc.nl]; exact hj)
   unfold sumP at h1
   omega
 have hsl := hr.sl
 unfold Sq.Slp.slE at hsl
 have hn2 : ¬ 200 < c.sls.length := fun e => by rw [if_pos e] at hsl; omega
 rw [if_neg hn2] at hsl
 have hsw : Sq.Slp.slsW c.sls = 0 := by
  by_cases e : Sq.Slp.slsW c.sls = 0
  ·exact e
  ·rw [if_neg e] at hsl; exact hsl
 have hjr := hr.jr
 unfold Sq.Ldg.jrE at hjr
 have hn1 : ¬ 100 < c.jr.length := fun e => by rw [if_pos e] at hjr; omega
 rw [if_neg hn1] at hjr
 have hew : Sq.Ldg.ensE c.jr = 0 := by
  by_cases e : Sq.Ldg.ensE c.jr = 0
  ·exact e
  ·rw [if_neg e] at hjr; exact hjr
 have e1 := hr.nl
 have e2 := hr.np
 rw [hc.nl] at e1
 rw [hc.np] at e2
 rw [hc.nz] at hn2
 rw [hc.nj] at hn1
 refine ⟨fun w' hw => copyLns s.al s.nl s.cl c.lns w' (hc.below hw).l hc.nl hc.ml (by omega) hpt, fun w' hw => copyTbs s.at' s.nt s.ct c.tbs w' (hc.below hw).t hc.nt hc.mt (by rw [← hc.nt]; exact ht.1) (fun j hj => ht.2 j (by rw [hc.nt]; exact hj)), fun w' hw => copyPrs s.ap s.np s.cp c.prs w' (hc.below hw).p hc.np hc.mp (by omega) fun j hj => ?_, fun w' hw => copySls s.az s.nz s.cz c.sls w' (hc.below hw).z hc.nz hc.mz (by omega) fun j hj => slW_tot (Sq.Slp.slsW_zero hsw _ (Sq.Slp.snth_mem (by rw [hc.nz]; exact hj))), fun w' hw => copyEns s.aj s.nj s.cj c.jr w' (hc.below hw).j hc.nj hc.mj (by omega) fun j hj => enE_ps (Sq.Ldg.ensE_zero hew _ (Sq.Ldg.enth_mem (by rw [hc.nj]; exact hj)))⟩
 obtain ⟨g1, g2⟩ := plan_small (hr.one j (by rw [hc.np]; exact hj)).2.2
 exact ⟨g1, fun i hi => by have := g2 i hi; simp only [plOf] at this; omega⟩
def workB (c : Co) : Bool := !(c.num == 0) && !(c.run 0 == 6)
set_option maxRecDepth 100000 in
set_option maxHeartbeats 1000000 in
theorem isAtWork_any (c : Co) (s : Ly) (w : World) : Calls Tryz.prog 50 #[.agg (coA c s)] w fun e w' => e = .returned (.bool (workB c)) ∧ Below w.heap.size w w' := by
 have HB0 := Lib.hid (kbelow_box w (.cells (coA c s) 33))
 obtain ⟨-, -, -, -, -, -, -, k7, -, k9, -⟩ := (CBox.made w c s).cells
 have HW : Hid (workB c = (!(c.num == 0) && !(c.run 0 == 6))) := rfl
 rw [HW.out]
 clear HW
 generalize c.num = x at *
 generalize c.run 0 = y at *
 by_cases h1 : x = 0
 ·subst h1
  go_enter Tryz.func50, Tryz.ntmps50
  go_wp2_with fail
  go_ret
  exact ⟨rfl, HB0.out⟩
 ·have h1a : (x != 0) = true := by simp [h1]
  have h1b : (x == 0) = false := by simp [h1]
  by_cases h2 : y = 6
  ·have h2a : (y != 6) = false := by simp [h2]
   have h2b : (y == 6) = true := by simp [h2]
   have HR : Hid ((!(x == 0) && !(y == 6)) = false) := Lib.hid (by rw [h1b, h2b]; rfl)
   rw [HR.out]
   clear h1 h2 h1b h2b
   go_enter Tryz.func50, Tryz.ntmps50
   go_wp2_with fail
   go_ret
   exact ⟨rfl, HB0.out⟩
  ·have h2a : (y != 6) = true := by simp [h2]
   have h2b : (y == 6) = false := by simp [h2]
   have HR : Hid ((!(x == 0) && !(y == 6)) = true) := Lib.hid (by rw [h1b, h2b]; rfl)
   rw [HR.out]
   clear h1 h2 h1b h2b
   go_enter Tryz.func50, Tryz.ntmps50
   go_wp2_with fail
   go_ret
   exact ⟨rfl, HB0.out⟩
set_option maxRecDepth 100000 in
set_option maxHeartbeats 1000000 in
theorem opn1 (F : Fs) (b : Nat) (c : Co) (s : Ly) (w : World) (hv : Vs w) (hb : CBox w b c s) (hc : CameC w s c) :
 Calls Tryz.prog 48 #[.pointer (some ⟨b, 0, none⟩)] w fun e w' => e = .returned (.int .i64 (coE F c)) ∧ Below w.heap.size w w' := by
 have HX := Lib.hid hb
 have HC := Lib.hid (houseCheck_any F c s w hv hc)
 clear hb hc hv
 go_enter Tryz.func48, Tryz.ntmps48
 go_wp2_with (refine wpList_load_row rfl 33 (.tmp 0) rfl b rfl 33 (coA c s) (0, 0) _ HX.out Tryz.underlying33 rfl (coInfo c s) ?_)
 refine HC.out.mono ?_
 rintro e w1 ⟨rfl, hb1⟩
 have HB1 := Lib.hid hb1
 clear hb1
 go_wp2_with fail
 go_ret
 exact ⟨rfl, HB1.out⟩
set_option maxRecDepth 100000 in
set_option maxHeartbeats 1000000 in
theorem opn2 (b : Nat) (c : Co) (s : Ly) (w : World) (hb : CBox w b c s) :
 Calls Tryz.prog 49 #[.pointer (some ⟨b, 0, none⟩)] w fun e w' => e = .returned (.int .i64 (ifE (workB c) 4)) ∧ Below w.heap.size w w' := by
 have HX := Lib.hid hb
 clear hb
 go_enter Tryz.func49, Tryz.ntmps49
 go_wp2_with (refine wpList_load_row rfl 33 (.tmp 0) rfl b rfl 33 (coA c s) (0, 0) _ HX.out Tryz.underlying33 rfl (coInfo c s) ?_)
 refine (isAtWork_any c s _).mono ?_
 rintro e w1 ⟨rfl, hb1⟩
 have HB1 := Lib.hid hb1
 clear hb1
 go_wp2_with (first | (go_at_call 21; refine (when_any _ _ _).mono ?_; rintro e w' ⟨rfl, h'⟩; subst w'))
 go_ret
 exact ⟨rfl, HB1.out⟩
set_option maxRecDepth 100000 in
set_option maxHeartbeats 1000000 in
theorem opn3 (b : Nat) (c : Co) (s : Ly) (w : World) (hb : CBox w b c s) :
 Calls Tryz.prog 51 #[.pointer (some ⟨b, 0, none⟩)] w fun e w' => e = .returned (.int .i64 (ifE (c.num == 999) 3)) ∧ Below w.heap.size w w' := by
 obtain ⟨-, -, -, -, -, -, -, k7, -⟩ := hb.cells
 clear hb
 go_enter Tryz.func51, Tryz.ntmps51
 go_wp2_with (first | (go_at_call 21; refine (when_any _ _ _).mono ?_; rintro e w' ⟨rfl, h'⟩; subst w'))
 go_ret
 exact ⟨rfl, Below.refl _ _⟩
set_option maxRecDepth 100000 in
set_option maxHeartbeats 1000000 in
theorem opn4 (F : Fs) (b q : Nat) (c : Co) (s : Ly) (k : Int) (w : World) (hb : CBox w b c s) (hq : w.cell? ⟨q, 0, none⟩ = some (.int .i64 k)) :
 Calls Tryz.prog 52 #[.pointer (some ⟨b, 0, none⟩), .pointer (some ⟨q, 0, none⟩)] w fun e w' => e = .returned (.int .i64 (F.ae c.K c.A c.L k)) ∧ Below w.heap.size w w' := by
 obtain ⟨-, k1, k2, k3, -⟩ := hb.cells
 clear hb
 go_enter Tryz.func52, Tryz.ntmps52
 go_wp2_with fail
 refine (checkPeriod_any F c.K c.A c.L k _).mono ?_
 rintro e w1 ⟨rfl, hb1⟩
 have HB1 := Lib.hid hb1
 clear hb1
 go_wp2_with fail
 go_ret
 exact ⟨rfl, HB1.out⟩
set_option maxRecDepth 100000 in
set_option maxHeartbeats 1000000 in
theorem opn5 (b q : Nat) (c : Co) (s : Ly) (k : Int) (w : World) (hb : CBox w b c s) (hq : w.cell? ⟨q, 0, none⟩ = some (.int .i64 k)) :
 Calls Tryz.prog 54 #[.pointer (some ⟨b, 0, none⟩), .pointer (some ⟨q, 0, none⟩)] w fun e w' => e = .returned (.int .i64 (ifE (!(c.num == 0) && decide (k < c.per)) 10)) ∧ Below w.heap.size w w' := by
 obtain ⟨-, -, -, -, -, -, -, k7, k8, -⟩ := hb.cells
 clear hb
 generalize c.num = x at *
 generalize c.per = y at *
 by_cases h1 : x = 0
 ·subst h1
  go_enter Tryz.func54, Tryz.ntmps54
  go_wp2_with (first | (go_at_call 21; refine (when_any _ _ _).mono ?_; rintro e w' ⟨rfl, h'⟩; subst w'))
  go_ret
  exact ⟨rfl, Below.refl _ _⟩
 ·have h1a : (x != 0) = true := by simp [h1]
  have HR : Hid ((!(x == 0) && decide (k < y)) = decide (k < y)) := Lib.hid (by rw [show (x == 0) = false from by simp [h1]]; rfl)
  rw [HR.out]
  clear h1
  cases h2 : decide (k < y)
  ·go_enter Tryz.func54, Tryz.ntmps54
   go_wp2_with (first | (go_at_call 21; refine (when_any _ _ _).mono ?_; rintro e w' ⟨rfl, h'⟩; subst w'))
   go_ret
   exact ⟨rfl, Below.refl _ _⟩
  ·go_enter Tryz.func54, Tryz.ntmps54
   go_wp2_with (first | (go_at_call 21; refine (when_any _ _ _).mono ?_; rintro e w' ⟨rfl, h'⟩; subst w'))
   go_ret
   exact ⟨rfl, Below.refl _ _⟩
def opEs (F : Fs) (c : Co) (k : Int) : List Int := [coE F c, ifE (workB c) 4, ifE (c.num == 999) 3, F.ae c.K c.A c.L k, ifE (!(c.num == 0) && decide (k < c.per)) 10]
def opE (F : Fs) (c : Co) (k : Int) : Int := fstL (opEs F c k)
end Go.Proofs.YtkalfdjmklakdaaGreatDoor
namespace Go.Proofs.YtkalfdjmklakdaaGreatDoor
open Go.RowKit
theorem Agree.setO {B D : Nat} {a w : World} {p : Addr} {v : Value} (h : Agree B D a w) (hp : D ≤ p.block) : Agree B D a (w.setCell p v) := by
 obtain ⟨g, j, sp⟩ := p
 refine ⟨fun k h1 h2 => ?_, by rw [World.size_setCell]; exact h.2⟩
 have h' : ¬ g = k := by simp only at hp; omega
 rw [← h.1 k h1 h2]
 simp [World.setCell, Array.getElem?_modify, h']
theorem fr_setO {B D : Nat} {P : World → Prop} {W : World} {p : Addr} {v : Value} (h : FrP B D W P) (hD : D ≤ W.heap.size) (hp : D ≤ p.block) : FrP B D (W.setCell p v) P := h.move (Agree.setO ⟨fun _ _ _ => rfl, hD⟩ hp)
theorem results_cell_tmp {P : Program} {fn : Func} {p q : Tmp} {ty : TypeId} (h : fn.results = #[.cell p ty, .tmp q]) (tmps : Array Value) (w : World) (g : Nat) (t : TypeId) (cs : Array Value) (fr : Nat × Nat) (d : TypeDesc)
 (hp : tmps.getD p undef = .pointer (some ⟨g, 0, none⟩)) (v : Value) (hq : tmps.getD q undef = v) (hg : w.heap[g]? = some (.cells cs t fr))
 (hu : P.underlying ty = some d) (hd : (match d with | .struct _ | .array _ _ => true | _ => false) = true) (hi : (P.info? ty).map (·.size) = some cs.size) :
 (results fn tmps).run P w = .ok (.tuple #[.agg cs, v]) w := by
 have hp' : tmps[p]?.getD undef = .pointer (some ⟨g, 0, none⟩) := by simpa using hp
 have hq' : tmps[q]?.getD undef = v := by simpa using hq
 simp [results, h, hp', hq', asAddr, run_loadVar_row w g t ty cs fr d hg hu hd hi]
theorem came0 (z : World) : CameC z ly0 co0 := by
 refine ⟨.inl rfl, .inl rfl, .inl rfl, .inl rfl, .inl rfl, rfl, rfl, rfl, rfl, rfl, Nat.zero_le _, Nat.zero_le _, Nat.zero_le _, Nat.zero_le _, Nat.zero_le _, by decide, by decide, by decide, by decide, by decide, by decide, fun j hj => by show (Lit.int .i64 0).wf = true; decide⟩
def opened (c : Co) (k : Int) : Co := { c with num := c.num + 1, per := k, run := fun _ => 0 }
def opI (c : Co) (k : Int) (i : Nat) : Co := { c with num := c.num + 1, per := k, run := fun j => if j < i then 0 else c.run j }
theorem CBox.op0 {w : World} {g : Nat} {c : Co} {s : Ly} (k : Int) (h : CBox w g c s) : CBox ((w.setCell ⟨g, 7, none⟩ (.int .i64 (c.num + 1))).setCell ⟨g, 8, none⟩ (.int .i64 k)) g (opI c k 0) s := by
 have e : ((coA c s).setIfInBounds 7 (.int .i64 (c.num + 1))).setIfInBounds 8 (.int .i64 k) = coA (opI c k 0) s := rfl
 unfold CBox
 rw [← e]
 exact heap_setCell_row 8 _ (heap_setCell_row 7 _ h)
theorem opI_set (c : Co) (k : Int) (s : Ly) (i : Nat) (hi : i < 8) : (coA (opI c k i) s).setIfInBounds (9 + i) (.int .i64 0) = coA (opI c k (i + 1)) s := by
 rcases (show i = 0 ∨ i = 1 ∨ i = 2 ∨ i = 3 ∨ i = 4 ∨ i = 5 ∨ i = 6 ∨ i = 7 by omega) with rfl | rfl | rfl | rfl | rfl | rfl | rfl | rfl <;> rfl
theorem CBox.opS {w : World} {g : Nat} {c : Co} {s : Ly} {k : Int} {i : Nat} (h : CBox w g (opI c k i) s) (hi : i < 8) (j : Nat) (hj : j = 9 + i) : CBox (w.setCell ⟨g, j, none⟩ (.int .i64 0)) g (opI c k (i + 1)) s := by
 subst hj
 unfold CBox
 rw [← opI_set c k s i hi]
 exact heap_setCell_row (9 + i) _ h
theorem CBox.same {w : World} {g : Nat} {c c' : Co} {s : Ly} (h : CBox w g c s) (h1 : c.today = c'.today) (h2 : c.K = c'.K) (h3 : c.A = c'.A) (h4 : c.L = c'.L) (h5 : c.num = c'.num) (h6 : c.per = c'.per) (h7 : ∀ j, j < 8 → c.run j = c'.run j) : CBox w g c' s := by
 unfold CBox at *
 rw [h]
 unfold coA
 rw [h1, h2, h3, h4, h5, h6, h7 0 (by omega), h7 1 (by omega), h7 2 (by omega), h7 3 (by omega), h7 4 (by omega), h7 5 (by omega), h7 6 (by omega), h7 7 (by omega)]
theorem CBox.drew {w : World} {g : Nat} {c : Co} {s : Ly} (h : CBox w g c s) : CBox w.drew g c s := h
theorem below_drew {B : Nat} {a w : World} (h : Below B a w) : Below B a w.drew := h.trans ⟨rfl, rfl, rfl, Nat.le_refl _, fun _ _ => rfl⟩
theorem open_sets {W : World} {g : Nat} {c : Co} {s : Ly} (k : Int) (h : CBox W g c s) : CBox ((((((((((W.setCell ⟨g, 7, none⟩ (.int .i64 (c.num + 1))).setCell ⟨g, 8, none⟩ (.int .i64 k)).setCell ⟨g, 9, none⟩ (.int .i64 0)).setCell ⟨g, 10, none⟩ (.int .i64 0)).setCell ⟨g, 11, none⟩ (.int .i64 0)).setCell ⟨g, 12, none⟩ (.int .i64 0)).setCell ⟨g, 13, none⟩ (.int .i64 0)).setCell ⟨g, 14, none⟩ (.int .i64 0)).setCell ⟨g, 15, none⟩ (.int .i64 0)).setCell ⟨g, 16, none⟩ (.int .i64 0)).drew g (opened c k) s ∧ Below g W ((((((((((W.setCell ⟨g, 7, none⟩ (.int .i64 (c.num + 1))).setCell ⟨g, 8, none⟩ (.int .i64 k)).setCell ⟨g, 9, none⟩ (.int .i64 0)).setCell ⟨g, 10, none⟩ (.int .i64 0)).setCell ⟨g, 11, none⟩ (.int .i64 0)).setCell ⟨g, 12, none⟩ (.int .i64 0)).setCell ⟨g, 13, none⟩ (.int .i64 0)).setCell ⟨g, 14, none⟩ (.int .i64 0)).setCell ⟨g, 15, none⟩ (.int .i64 0)).setCell ⟨g, 16, none⟩ (.int .i64 0)).drew := by
 constructor
 ·refine CBox.drew ?_
  have h1 := ((((((((h.op0 k).opS (by decide) 9 rfl).opS (by decide) 10 rfl).opS (by decide) 11 rfl).opS (by decide) 12 rfl).opS (by decide) 13 rfl).opS (by decide) 14 rfl).opS (by decide) 15 rfl).opS (by decide) 16 rfl
  exact h1.same rfl rfl rfl rfl rfl rfl (fun j hj => if_pos hj)
 ·refine below_drew ?_
  iterate 10 (refine Below.setCell ?_ (by exact Nat.le_refl _) _)
  exact Below.refl _ _
def OpenRet (F : Fs) (c : Co) (k : Int) (w : World) (e : Ending) (w' : World) : Prop := ∃ (cr : Co) (sr : Ly), e = .returned (.tuple #[.agg (coA cr sr), .int .i64 (opE F c k)]) ∧ (opE F c k ≠ 0 → cr = co0 ∧ sr = ly0) ∧ (opE F c k = 0 → cr = opened c k) ∧ FrP w.heap.size w'.heap.size w' (fun z => CameC z sr cr) ∧ Below w.heap.size w w'
set_option maxRecDepth 100000 in
set_option maxHeartbeats 4000000 in
theorem open_any (F : Fs) (c : Co) (s : Ly) (k : Int) (w : World) (hv : Vs w) (hc : CameC w s c) (hk : (Lit.int .i64 k).wf = true) (ht : TbSz c.tbs) :
 Calls Tryz.prog 10 #[.agg (coA c s), .int .i64 k] w fun e w' => OpenRet F c k w e w' := by
 have h1 : Below (w.heap.size + 1) (w.alloc (.cells (coA c s) 33)) ((((w.alloc (.cells (coA c s) 33)).alloc (.cells #[.int .i64 k] 3)).alloc (.cells #[.int .i64 0, .int .i64 0, .int .i64 0, .int .i64 0, .slice none 0 0, .slice none 0 0, .slice none 0 0, .int .i64 0, .int .i64 0, .int .i64 0, .int .i64 0, .int .i64 0, .int .i64 0, .int .i64 0, .int .i64 0, .int .i64 0, .int .i64 0, .slice none 0 0, .slice none 0 0] 33)).alloc (.cells #[.func (.func 48) #[] #[.pointer (some ⟨w.heap.size, 0, none⟩)], .func (.func 49) #[] #[.pointer (some ⟨w.heap.size, 0, none⟩)], .func (.func 51) #[] #[.pointer (some ⟨w.heap.size, 0, none⟩)], .func (.func 52) #[] #[.pointer (some ⟨w.heap.size, 0, none⟩), .pointer (some ⟨w.heap.size + 1, 0, none⟩)], .func (.func 54) #[] #[.pointer (some ⟨w.heap.size, 0, none⟩), .pointer (some ⟨w.heap.size + 1, 0, none⟩)]] 66)) := (((Below.refl _ _).alloc (by simp) _).alloc (by simp) _).alloc (by simp) _
 have h2 : Below (w.heap.size + 2) ((w.alloc (.cells (coA c s) 33)).alloc (.cells #[.int .i64 k] 3)) ((((w.alloc (.cells (coA c s) 33)).alloc (.cells #[.int .i64 k] 3)).alloc (.cells #[.int .i64 0, .int .i64 0, .int .i64 0, .int .i64 0, .slice none 0 0, .slice none 0 0, .slice none 0 0, .int .i64 0, .int .i64 0, .int .i64 0, .int .i64 0, .int .i64 0, .int .i64 0, .int .i64 0, .int .i64 0, .int .i64 0, .int .i64 0, .slice none 0 0, .slice none 0 0] 33)).alloc (.cells #[.func (.func 48) #[] #[.pointer (some ⟨w.heap.size, 0, none⟩)], .func (.func 49) #[] #[.pointer (some ⟨w.heap.size, 0, none⟩)], .func (.func 51) #[] #[.pointer (some ⟨w.heap.size, 0, none⟩)], .func (.func 52) #[] #[.pointer (some ⟨w.heap.size, 0, none⟩), .pointer (some ⟨w.heap.size + 1, 0, none⟩)], .func (.func 54) #[] #[.pointer (some ⟨w.heap.size, 0, none⟩), .pointer (some ⟨w.heap.size + 1, 0, none⟩)]] 66)) := ((Below.refl _ _).alloc (by simp) _).alloc (by simp) _
 have hx : CBox ((((w.alloc (.cells (coA c s) 33)).alloc (.cells #[.int .i64 k] 3)).alloc (.cells #[.int .i64 0, .int .i64 0, .int .i64 0, .int .i64 0, .slice none 0 0, .slice none 0 0, .slice none 0 0, .int .i64 0, .int .i64 0, .int .i64 0, .int .i64 0, .int .i64 0, .int .i64 0, .int .i64 0, .int .i64 0, .int .i64 0, .int .i64 0, .slice none 0 0, .slice none 0 0] 33)).alloc (.cells #[.func (.func 48) #[] #[.pointer (some ⟨w.heap.size, 0, none⟩)], .func (.func 49) #[] #[.pointer (some ⟨w.heap.size, 0, none⟩)], .func (.func 51) #[] #[.pointer (some ⟨w.heap.size, 0, none⟩)], .func (.func 52) #[] #[.pointer (some ⟨w.heap.size, 0, none⟩), .pointer (some ⟨w.heap.size + 1, 0, none⟩)], .func (.func 54) #[] #[.pointer (some ⟨w.heap.size, 0, none⟩), .pointer (some ⟨w.heap.size + 1, 0, none⟩)]] 66)) w.heap.size c s := (CBox.made w c s).below h1 (by omega)
 have hkk : ((((w.alloc (.cells (coA c s) 33)).alloc (.cells #[.int .i64 k] 3)).alloc (.cells #[.int .i64 0, .int .i64 0, .int .i64 0, .int .i64 0, .slice none 0 0, .slice none 0 0, .slice none 0 0, .int .i64 0, .int .i64 0, .int .i64 0, .int .i64 0, .int .i64 0, .int .i64 0, .int .i64 0, .int .i64 0, .int .i64 0, .int .i64 0, .slice none 0 0, .slice none 0 0] 33)).alloc (.cells #[.func (.func 48) #[] #[.pointer (some ⟨w.heap.size, 0, none⟩)], .func (.func 49) #[] #[.pointer (some ⟨w.heap.size, 0, none⟩)], .func (.func 51) #[] #[.pointer (some ⟨w.heap.size, 0, none⟩)], .func (.func 52) #[] #[.pointer (some ⟨w.heap.size, 0, none⟩), .pointer (some ⟨w.heap.size + 1, 0, none⟩)], .func (.func 54) #[] #[.pointer (some ⟨w.heap.size, 0, none⟩), .pointer (some ⟨w.heap.size + 1, 0, none⟩)]] 66)).cell? ⟨w.heap.size + 1, 0, none⟩ = some (.int .i64 k) := (h2.cell (p := ⟨w.heap.size + 1, 0, none⟩) (by simp)).trans (row_at _ _ _ _ _ _ (by simp only [World.size_alloc] <;> omega) rfl)
 have hr : CBox ((((w.alloc (.cells (coA c s) 33)).alloc (.cells #[.int .i64 k] 3)).alloc (.cells #[.int .i64 0, .int .i64 0, .int .i64 0, .int .i64 0, .slice none 0 0, .slice none 0 0, .slice none 0 0, .int .i64 0, .int .i64 0, .int .i64 0, .int .i64 0, .int .i64 0, .int .i64 0, .int .i64 0, .int .i64 0, .int .i64 0, .int .i64 0, .slice none 0 0, .slice none 0 0] 33)).alloc (.cells #[.func (.func 48) #[] #[.pointer (some ⟨w.heap.size, 0, none⟩)], .func (.func 49) #[] #[.pointer (some ⟨w.heap.size, 0, none⟩)], .func (.func 51) #[] #[.pointer (some ⟨w.heap.size, 0, none⟩)], .func (.func 52) #[] #[.pointer (some ⟨w.heap.size, 0, none⟩), .pointer (some ⟨w.heap.size + 1, 0, none⟩)], .func (.func 54) #[] #[.pointer (some ⟨w.heap.size, 0, none⟩), .pointer (some ⟨w.heap.size + 1, 0, none⟩)]] 66)) (w.heap.size + 2) co0 ly0 := ((Below.refl (w.heap.size + 3) (((w.alloc (.cells (coA c s) 33)).alloc (.cells #[.int .i64 k] 3)).alloc (.cells #[.int .i64 0, .int .i64 0, .int .i64 0, .int .i64 0, .slice none 0 0, .slice none 0 0, .slice none 0 0, .int .i64 0, .int .i64 0, .int .i64 0, .int .i64 0, .int .i64 0, .int .i64 0, .int .i64 0, .int .i64 0, .int .i64 0, .int .i64 0, .slice none 0 0, .slice none 0 0] 33))).alloc (by simp) (.cells #[.func (.func 48) #[] #[.pointer (some ⟨w.heap.size, 0, none⟩)], .func (.func 49) #[] #[.pointer (some ⟨w.heap.size, 0, none⟩)], .func (.func 51) #[] #[.pointer (some ⟨w.heap.size, 0, none⟩)], .func (.func 52) #[] #[.pointer (some ⟨w.heap.size, 0, none⟩), .pointer (some ⟨w.heap.size + 1, 0, none⟩)], .func (.func 54) #[] #[.pointer (some ⟨w.heap.size, 0, none⟩), .pointer (some ⟨w.heap.size + 1, 0, none⟩)]] 66)).block _ (by omega) |>.trans (by
  have := heap_alloc_new ((w.alloc (.cells (coA c s) 33)).alloc (.cells #[.int .i64 k] 3)) (.cells #[.int .i64 0, .int .i64 0, .int .i64 0, .int .i64 0, .slice none 0 0, .slice none 0 0, .slice none 0 0, .int .i64 0, .int .i64 0, .int .i64 0, .int .i64 0, .int .i64 0, .int .i64 0, .int .i64 0, .int .i64 0, .int .i64 0, .int .i64 0, .slice none 0 0, .slice none 0 0] 33)
  simp only [World.size_alloc] at this
  exact this)
 have hb0 : Below w.heap.size w ((((w.alloc (.cells (coA c s) 33)).alloc (.cells #[.int .i64 k] 3)).alloc (.cells #[.int .i64 0, .int .i64 0, .int .i64 0, .int .i64 0, .slice none 0 0, .slice none 0 0, .slice none 0 0, .int .i64 0, .int .i64 0, .int .i64 0, .int .i64 0, .int .i64 0, .int .i64 0, .int .i64 0, .int .i64 0, .int .i64 0, .int .i64 0, .slice none 0 0, .slice none 0 0] 33)).alloc (.cells #[.func (.func 48) #[] #[.pointer (some ⟨w.heap.size, 0, none⟩)], .func (.func 49) #[] #[.pointer (some ⟨w.heap.size, 0, none⟩)], .func (.func 51) #[] #[.pointer (some ⟨w.heap.size, 0, none⟩)], .func (.func 52) #[] #[.pointer (some ⟨w.heap.size, 0, none⟩), .pointer (some ⟨w.heap.size + 1, 0, none⟩)], .func (.func 54) #[] #[.pointer (some ⟨w.heap.size, 0, none⟩), .pointer (some ⟨w.heap.size + 1, 0, none⟩)]] 66)) := (kbelow_box w _).trans (h1.mono (by omega))
 have hcc := hc.below hb0
 have hvv := hv.below hb0
 have hk1 := first_any (w.heap.size + 3) 5 5 (fF [48, 49, 51, 52, 54]) (fC [#[.pointer (some ⟨w.heap.size, 0, none⟩)], #[.pointer (some ⟨w.heap.size, 0, none⟩)], #[.pointer (some ⟨w.heap.size, 0, none⟩)], #[.pointer (some ⟨w.heap.size, 0, none⟩), .pointer (some ⟨w.heap.size + 1, 0, none⟩)], #[.pointer (some ⟨w.heap.size, 0, none⟩), .pointer (some ⟨w.heap.size + 1, 0, none⟩)]]) (fun j => (opEs F c k).getD j 0) ((((w.alloc (.cells (coA c s) 33)).alloc (.cells #[.int .i64 k] 3)).alloc (.cells #[.int .i64 0, .int .i64 0, .int .i64 0, .int .i64 0, .slice none 0 0, .slice none 0 0, .slice none 0 0, .int .i64 0, .int .i64 0, .int .i64 0, .int .i64 0, .int .i64 0, .int .i64 0, .int .i64 0, .int .i64 0, .int .i64 0, .int .i64 0, .slice none 0 0, .slice none 0 0] 33)).alloc (.cells #[.func (.func 48) #[] #[.pointer (some ⟨w.heap.size, 0, none⟩)], .func (.func 49) #[] #[.pointer (some ⟨w.heap.size, 0, none⟩)], .func (.func 51) #[] #[.pointer (some ⟨w.heap.size, 0, none⟩)], .func (.func 52) #[] #[.pointer (some ⟨w.heap.size, 0, none⟩), .pointer (some ⟨w.heap.size + 1, 0, none⟩)], .func (.func 54) #[] #[.pointer (some ⟨w.heap.size, 0, none⟩), .pointer (some ⟨w.heap.size + 1, 0, none⟩)]] 66)) (by omega)
  (fun j hj => by
   match j, hj with
   | 0, _ | 1, _ | 2, _ | 3, _ | 4, _ => exact row_at _ _ _ _ _ _ (by simp only [World.size_alloc] <;> omega) rfl
   | j + 5, h => omega)
  (fun j hj w => by
   match j, hj with
   | 0, _ | 1, _ | 2, _ | 3, _ | 4, _ => simp [fF, fC, go_sem]
   | j + 5, h => omega)
  (fun j hj _ w' hb => by
   match j, hj with
   | 0, _ => exact opn1 F _ c s w' (hvv.below hb) (hx.below hb hx.lt) (hcc.below hb)
   | 1, _ => exact opn2 _ c s w' (hx.below hb hx.lt)
   | 2, _ => exact opn3 _ c s w' (hx.below hb hx.lt)
   | 3, _ => exact opn4 F _ _ c s k w' (hx.below hb hx.lt) ((hb.cell (p := ⟨w.heap.size + 1, 0, none⟩) (blt_of_cell hkk)).trans hkk)
   | 4, _ => exact opn5 _ _ c s k w' (hx.below hb hx.lt) ((hb.cell (p := ⟨w.heap.size + 1, 0, none⟩) (blt_of_cell hkk)).trans hkk)
   | j + 5, h => omega)
 have HK := Lib.hid hk1
 have HX := Lib.hid hx
 have HKK := Lib.hid hkk
 have HR := Lib.hid hr
 have HB := Lib.hid hb0
 have HC := Lib.hid hc
 have HT := Lib.hid ht
 have HWK := Lib.hid hk
 clear h1 h2 hx hkk hr hb0 hcc hvv hk1 hv hc ht hk
 go_enter Tryz.func10, Tryz.ntmps10
 go_wp2_with fail
 refine HK.out.mono ?_
 rintro e w1 ⟨rfl, hb1⟩
 have HB1 := Lib.hid (HB.out.trans (hb1.mono HB.out.size))
 have HX1 := Lib.hid (HX.out.below hb1 HX.out.lt)
 have HR1 := Lib.hid (HR.out.below hb1 HR.out.lt)
 have HKK1 := Lib.hid ((hb1.cell (p := ⟨w.heap.size + 1, 0, none⟩) (blt_of_cell HKK.out)).trans HKK.out)
 have HS1 := Lib.hid (Nat.le_trans HB.out.size hb1.size)
 have HS3 := Lib.hid HR1.out.lt
 clear hb1 HK HX HKK HR HB
 have HOP : Hid (firstE (fun j => (opEs F c k).getD j 0) 5 = opE F c k) := rfl
 rw [HOP.out]
 clear HOP
 obtain ⟨x, hx⟩ : ∃ x, opE F c k = x := ⟨_, rfl⟩
 rw [hx]
 have HE := Lib.hid hx
 clear hx
 by_cases hx0 : x = 0
 rotate_left
 ·have hx1 : (x != 0) = true := by simp [hx0]
  have HN := Lib.hid hx0
  clear hx0
  go_wp2_with (refine wpList_store_row rfl 33 (.tmp 4) (.tmp 17) rfl (w.heap.size + 2) (coA co0 ly0) rfl rfl 33 (coA co0 ly0) HR1.out (coInfo co0 ly0) rfl (coOne co0 ly0) ?_)
  refine bodyPost_ret (v := .tuple #[.agg (coA co0 ly0), .int .i64 x]) (results_cell_tmp (p := 4) (q := 5) (ty := 33) Tryz.results10 _ _ (w.heap.size + 2) 33 (coA co0 ly0) (0, 0) _ rfl _ rfl (setRow_heap _ _ _ _ _ _ HR1.out) Tryz.underlying33 rfl (coInfo co0 ly0)) rfl ⟨co0, ly0, by rw [HE.out], fun _ => ⟨rfl, rfl⟩, fun h => absurd (HE.out.symm.trans h) HN.out, .triv came0, below_setRow HB1.out (by omega) _⟩
 subst hx0
 have HRG := Lib.hid (right_of (F := F) (c := c) (fst_z0 (show fstL (coE F c :: _) = 0 from HE.out)).1)
 have hcop := copied_of c s w1 (HC.out.below HB1.out) (copOk (HC.out.below HB1.out) HRG.out HT.out)
 have HCP := Lib.hid hcop
 clear hcop
 go_wp2_with (refine wpList_load_row rfl 33 (.tmp 2) rfl w.heap.size rfl 33 (coA c s) (0, 0) _ HX1.out Tryz.underlying33 rfl (coInfo c s) ?_)
 refine HCP.out.mono ?_
 rintro e w2 ⟨s', rfl, hfr, hb2⟩
 have HB2 := Lib.hid (HB1.out.trans (hb2.mono HB1.out.size))
 have HX2 := Lib.hid (HX1.out.below hb2 HX1.out.lt)
 have HR2 := Lib.hid (HR1.out.below hb2 HR1.out.lt)
 have HKK2 := Lib.hid ((hb2.cell (p := ⟨w.heap.size + 1, 0, none⟩) (blt_of_cell HKK1.out)).trans HKK1.out)
 have HFR := Lib.hid hfr
 clear hfr hb2 HB1 HX1 HR1 HKK1 HCP
 have HG : Hid ((w2.alloc (.cells #[.int .i64 0, .int .i64 0, .int .i64 0, .int .i64 0, .slice none 0 0, .slice none 0 0, .slice none 0 0, .int .i64 0, .int .i64 0, .int .i64 0, .int .i64 0, .int .i64 0, .int .i64 0, .int .i64 0, .int .i64 0, .int .i64 0, .int .i64 0, .slice none 0 0, .slice none 0 0] 33)).heap[w2.heap.size]? = some (.cells (coA co0 ly0) 33 (0, 0))) := Lib.hid (heap_alloc_new w2 (.cells #[.int .i64 0, .int .i64 0, .int .i64 0, .int .i64 0, .slice none 0 0, .slice none 0 0, .slice none 0 0, .int .i64 0, .int .i64 0, .int .i64 0, .int .i64 0, .int .i64 0, .int .i64 0, .int .i64 0, .int .i64 0, .int .i64 0, .int .i64 0, .slice none 0 0, .slice none 0 0] 33))
 go_upto_region 5 with (refine wpList_store_row rfl 33 (.tmp 7) (.tmp 20) rfl w2.heap.size (coA c s') rfl rfl 33 (coA co0 ly0) HG.out (coInfo c s') rfl (coOne c s') ?_)
 rw [World.setRow_alloc_new]
 have hw3 : ∃ W, w2.alloc (.cells (coA c s') 33) = W ∧ CBox W w2.heap.size c s' ∧ Below w2.heap.size w2 W := ⟨_, rfl, CBox.made w2 c s', kbelow_box _ _⟩
 obtain ⟨W, hW, hxw, hbw⟩ := hw3
 rw [hW]
 have hls : W.heap.size = w2.heap.size + 1 := by rw [← hW]; simp
 clear hW
 have HXW := Lib.hid hxw
 have HBW := Lib.hid hbw
 have HLS := Lib.hid hls
 obtain ⟨g, hg⟩ : ∃ g, w2.heap.size = g := ⟨_, rfl⟩
 have HGG := Lib.hid hg
 have hg0 : w.heap.size + 2 < g := by rw [← hg]; exact HR2.out.lt
 rw [hg] at HXW HBW HLS HFR ⊢
 have HX3 := Lib.hid (HX2.out.below HBW.out (by omega))
 have HR3 := Lib.hid (HR2.out.below HBW.out (by omega))
 have HKK3 := Lib.hid ((HBW.out.cell (p := ⟨w.heap.size + 1, 0, none⟩) (by show w.heap.size + 1 < g; omega)).trans HKK2.out)
 have HB3 := Lib.hid (HB2.out.trans (HBW.out.mono (by omega)))
 have HFR3 := Lib.hid (HFR.out.move (Agree.below HBW.out (Nat.le_refl _) (by rw [HGG.out]; exact Nat.le_refl _)))
 obtain ⟨-, -, -, -, -, -, -, b7, -⟩ := HX3.out.cells
 have bk := HKK3.out
 obtain ⟨-, -, -, -, -, -, -, p7, p8, p9, p10, p11, p12, p13, p14, p15, p16, -⟩ := HXW.out.cells
 have f7 := froz_row (w := W) 7 HXW.out
 have f8 := froz_row (w := W) 8 HXW.out
 have f9 := froz_row (w := W) 9 HXW.out
 have f10 := froz_row (w := W) 10 HXW.out
 have f11 := froz_row (w := W) 11 HXW.out
 have f12 := froz_row (w := W) 12 HXW.out
 have f13 := froz_row (w := W) 13 HXW.out
 have f14 := froz_row (w := W) 14 HXW.out
 have f15 := froz_row (w := W) 15 HXW.out
 have f16 := froz_row (w := W) 16 HXW.out
 have hnum : IntKind.i64.wrap (c.num + 1) = c.num + 1 := IntWalk.i64_in _ (by have := HRG.out.num; omega)
 have hne : ¬ g = w.heap.size := by omega
 have hne2 : ¬ g = w.heap.size + 1 := by omega
 clear hxw hbw hls hg HX2 HR2 HKK2 HB2 HFR
 dsimp only [Act.put]
 go_cut [] from 21 to 28 (fun wx => CBox wx g (opened c k) s' ∧ Below g W wx)
 case first =>
  go_region
  all_goals (go_wp2_with fail; go_meet; case rel => exact open_sets k HXW.out)
 case rest =>
  obtain ⟨hxc, hbc⟩ := hcut
  have HXC := Lib.hid hxc
  have HRC := Lib.hid (HR3.out.below hbc (by omega))
  have HBC := Lib.hid (HB3.out.trans (hbc.mono (by omega)))
  have HFC := Lib.hid (HFR3.out.move (Agree.below hbc (Nat.le_refl _) (by have := HLS.out; omega)))
  have HSC : Hid (g ≤ wc.heap.size) := Lib.hid (by have := hbc.size; have := HLS.out; omega)
  clear hxc hbc b7 bk p7 p8 p9 p10 p11 p12 p13 p14 p15 p16 f7 f8 f9 f10 f11 f12 f13 f14 f15 f16 hnum
  go_wp2_with (first | (refine wpList_load_row rfl 33 (.tmp 7) rfl g rfl 33 (coA (opened c k) s') (0, 0) _ HXC.out Tryz.underlying33 rfl (coInfo (opened c k) s') ?_) | (refine wpList_store_row rfl 33 (.tmp 4) (.tmp 29) rfl (w.heap.size + 2) (coA (opened c k) s') rfl rfl 33 (coA co0 ly0) HRC.out (coInfo (opened c k) s') rfl (coOne (opened c k) s') ?_))
  refine bodyPost_ret (v := .tuple #[.agg (coA (opened c k) s'), .int .i64 0]) (results_cell_tmp (p := 4) (q := 5) (ty := 33) Tryz.results10 _ _ (w.heap.size + 2) 33 (coA (opened c k) s') (0, 0) _ rfl _ rfl (setRow_heap _ _ _ _ _ _ HRC.out) Tryz.underlying33 rfl (coInfo (opened c k) s')) rfl ⟨opened c k, s', by rw [HE.out], fun h => absurd HE.out h, fun _ => rfl, ?_, below_setRow HBC.out (by omega) _⟩
  refine FrP.imp (FrP.wide (fr_rowD HFC.out HSC.out HS3.out) HS1.out (show g ≤ (wc.setRow _ _).heap.size from by rw [size_setRow]; exact HSC.out)) ?_
  intro z hz
  refine ⟨hz.l, hz.t, hz.p, hz.z, hz.j, hz.nl, hz.nt, hz.np, hz.nz, hz.nj, hz.ml, hz.mt, hz.mp, hz.mz, hz.mj, hz.wf.1, hz.wf.2.1, hz.wf.2.2.1, hz.wf.2.2.2.1, ?_, HWK.out, fun j hj => by show (Lit.int .i64 0).wf = true; decide⟩
  have := HRG.out.num
  show (Lit.int .i64 (c.num + 1)).wf = true
  have h1 : IntKind.i64.min = -9223372036854775808 := by decide
  have h2 : IntKind.i64.max = 9223372036854775807 := by decide
  simp only [Lit.wf, Bool.and_eq_true, decide_eq_true_eq]
  rw [h1, h2]
  omega
end Go.Proofs.YtkalfdjmklakdaaGreatDoor
namespace Go.Proofs.YtkalfdjmklakdaaGreatDoor
open Go.RowKit
def c00 : Co := ⟨0, 4, 0, 0, [], [], [], 0, 0, fun _ => 0, [], []⟩
theorem came00 (z : World) : CameC z ly0 c00 :=
 ⟨.inl rfl, .inl rfl, .inl rfl, .inl rfl, .inl rfl, rfl, rfl, rfl, rfl, rfl, Nat.zero_le _, Nat.zero_le _, Nat.zero_le _, Nat.zero_le _, Nat.zero_le _, by decide, by decide, by decide, by decide, by decide, by decide, fun j hj => by show (Lit.int .i64 0).wf = true; decide⟩
theorem civil_zero : Cal.IsCivil 0 0 1 1 := ⟨by omega, by omega, by omega, by omega, by decide, by decide⟩
theorem at_zero (k : Int) (h0 : 0 ≤ k) (h1 : k < 100) : Cal.AtIs 4 0 0 k (Cal.mDay k 1) (Cal.mDay k 31) 0 := by
 refine .inr ⟨by decide, .inr ⟨⟨h0, by omega⟩, .inr (.inl ⟨rfl, 0, 1, 1, civil_zero, .inr ⟨by omega, ?_, ?_, rfl⟩⟩)⟩⟩
 ·rw [show 12 * ((0 : Nat) : Int) + ((1 : Nat) : Int) - 1 + k = k by omega]
 ·rw [show 12 * ((0 : Nat) : Int) + ((1 : Nat) : Int) - 1 + k = k by omega]
theorem coE_begun (F : Fs) : coE F c00 = 0 := by
 have ha : F.ae c00.K c00.A c00.L c00.per = 0 := (F.ha 4 0 0 0 _ _ 0 (at_zero 0 (by omega) (by omega))).symm
 have hr : Rn.runE c00.run = 0 := by decide
 have hs : Sq.Slp.slE c00.sls = 0 := by decide
 have hj : Sq.Ldg.jrE c00.jr = 0 := by decide
 have hl : linesE c00.lns = 0 := by decide
 rw [coE_flat, ha, hr, hs, hj, hl]
 rfl
theorem opE_begun (F : Fs) : opE F c00 2 = 0 := by
 have ha : F.ae c00.K c00.A c00.L 2 = 0 := (F.ha 4 0 0 2 _ _ 0 (at_zero 2 (by omega) (by omega))).symm
 unfold opE opEs
 rw [coE_begun, ha]
 rfl
set_option maxRecDepth 100000 in
set_option maxHeartbeats 2000000 in
theorem houseBegun_any (F : Fs) (w : World) (hv : Vs w) : Calls Tryz.prog 7 #[] w fun e w' => e = .returned (.bool true) ∧ Below w.heap.size w w' := by
 have HV := Lib.hid hv
 clear hv
 go_enter Tryz.func7, Tryz.ntmps7
 go_wp2_with fail
 refine (open_any F c00 ly0 2 _ HV.out (came00 _) (by decide) ⟨by decide, fun j hj => by cases hj⟩).mono ?_
 rintro e w1 ⟨cr, sr, rfl, -, h2, -, hb1⟩
 obtain rfl := h2 (opE_begun F)
 rw [opE_begun F]
 have HB1 := Lib.hid hb1
 clear hb1 h2
 have HG : Hid ((w1.alloc (.cells #[.int .i64 0, .int .i64 0, .int .i64 0, .int .i64 0, .slice none 0 0, .slice none 0 0, .slice none 0 0, .int .i64 0, .int .i64 0, .int .i64 0, .int .i64 0, .int .i64 0, .int .i64 0, .int .i64 0, .int .i64 0, .int .i64 0, .int .i64 0, .slice none 0 0, .slice none 0 0] 33)).heap[w1.heap.size]? = some (.cells (coA co0 ly0) 33 (0, 0))) := Lib.hid (heap_alloc_new w1 (.cells #[.int .i64 0, .int .i64 0, .int .i64 0, .int .i64 0, .slice none 0 0, .slice none 0 0, .slice none 0 0, .int .i64 0, .int .i64 0, .int .i64 0, .int .i64 0, .int .i64 0, .int .i64 0, .int .i64 0, .int .i64 0, .int .i64 0, .int .i64 0, .slice none 0 0, .slice none 0 0] 33))
 go_upto_region 2 with (refine wpList_store_row rfl 33 (.tmp 1) (.tmp 7) rfl w1.heap.size (coA (opened c00 2) sr) rfl rfl 33 (coA co0 ly0) HG.out (coInfo (opened c00 2) sr) rfl (coOne (opened c00 2) sr) ?_)
 rw [World.setRow_alloc_new]
 try dsimp only [Act.put]
 have HB2 := Lib.hid (HB1.out.alloc HB1.out.size (.cells (coA (opened c00 2) sr) 33))
 obtain ⟨-, -, -, -, -, -, -, k7, k8, -⟩ := (CBox.made w1 (opened c00 2) sr).cells
 have e7 : (opened c00 2).num = 1 := rfl
 have e8 : (opened c00 2).per = 2 := rfl
 rw [e7] at k7
 rw [e8] at k8
 clear e7 e8
 go_wp2_with fail
 go_ret
 exact ⟨rfl, HB2.out⟩
end Go.Proofs.YtkalfdjmklakdaaGreatDoor
