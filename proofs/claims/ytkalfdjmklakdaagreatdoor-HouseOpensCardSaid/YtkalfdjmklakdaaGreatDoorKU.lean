/-
  Promise V1: the walks of what the reference asks of a company: PlanOf, PersonAt, ElementKind.
  Promise V1: what is wrong with a company, one check behind the other; what PersonAt and ElementKind answer is one answer.
  Promise V1: the walk of the reference's CheckCompany.
-/
import Derived.Test.YtkalfdjmklakdaaGreatDoorKT
import Derived.Test.YtkalfdjmklakdaaGreatDoorKD
import Derived.Test.YtkalfdjmklakdaaGreatDoorKJ
import Derived.Lib.QuietBelow
import Derived.BigQuiet
import Derived.Deep.CutRange
namespace Go.Proofs.YtkalfdjmklakdaaGreatDoor
open Go.RowKit
set_option maxRecDepth 100000 in
set_option maxHeartbeats 2000000 in
theorem planOf_ref (c : Co) (s : Ly) (r : Ps) (a : Option Addr) (k : Nat) (w : World) :
 Calls Tryz.prog 43 #[.agg (coA c s), .agg #[.int .i64 r.num, .string r.name, .string r.acc, .slice a r.ins.length k]] w fun e w' => e = .returned (.agg #[.int .i64 c.K, .int .i64 c.A, .int .i64 c.L, .slice s.al s.nl s.cl, .slice s.at' s.nt s.ct, .slice a r.ins.length k]) ∧ Below w.heap.size w w' := by
 obtain ⟨n, hn⟩ : ∃ n, r.ins.length = n := ⟨_, rfl⟩
 have HB0 := Lib.hid (((kbelow_box w (.cells (coA c s) 33)).alloc (by simp) (.cells #[.int .i64 r.num, .string r.name, .string r.acc, .slice a n k] 57)).alloc (by simp; omega) (.cells #[.int .i64 c.K, .int .i64 c.A, .int .i64 c.L, .slice s.al s.nl s.cl, .slice s.at' s.nt s.ct, .slice a n k] 78))
 rw [hn]
 clear hn
 have hx := (((CBox.made w c s).below (kbelow_box _ (.cells #[.int .i64 r.num, .string r.name, .string r.acc, .slice a n k] 57)) (by simp)).below (kbelow_box _ (.cells #[.int .i64 0, .int .i64 0, .int .i64 0, .slice none 0 0, .slice none 0 0, .slice none 0 0] 78)) (by simp; omega)).cells
 obtain ⟨-, k1, k2, k3, k4, k5, -⟩ := hx
 go_enter Tryz.func43, Tryz.ntmps43
 go_wp2_with fail
 refine bodyPost_ret (v := .agg #[.int .i64 c.K, .int .i64 c.A, .int .i64 c.L, .slice s.al s.nl s.cl, .slice s.at' s.nt s.ct, .slice a n k]) (by simp [results, Tryz.results43, go_sem] <;> rfl) rfl ⟨rfl, HB0.out⟩
set_option maxRecDepth 100000 in
set_option maxHeartbeats 2000000 in
theorem personAt_ref (c : Co) (s : Ly) (x : Int) (w : World) (hc : CameC w s c) :
 Calls Tryz.prog 17 #[.agg (coA c s), .int .i64 x] w fun e w' => ∃ v : Int, e = .returned (.int .i64 v) ∧ IdxIs (fun j => (psth c.prs j).num == x) s.np v ∧ Below w.heap.size w w' := by
 obtain ⟨n, hn⟩ : ∃ n, s.np = n := ⟨_, rfl⟩
 have hm' : n ≤ 9223372036854775807 := by have := hc.mp; rw [hn] at this; unfold maxLen at this; omega
 have HO := Lib.hid (fun h0 => hc.p.open (n := n) (hc.np.trans hn) h0)
 have HB0 := Lib.hid (kbelow_box w (.cells (coA c s) 33))
 have HX := Lib.hid (CBox.made w c s)
 rw [hn]
 clear hc
 go_enter Tryz.func17, Tryz.ntmps17
 go_wp2_with fail
 go_loopw [5] (fun i wr => ∃ k : Nat, k ≤ n ∧ i = .int .i64 k ∧ (∀ j, j < k → ((psth c.prs j).num == x) = false) ∧ wr = w.alloc (.cells (coA c s) 33)) (fun i _ => n - (intOf i).toNat)
 case atStart => exact ⟨0, Nat.zero_le _, rfl, fun j hj => by omega, rfl⟩
 case round =>
  obtain ⟨k, hk, rfl, hall, rfl⟩ := hrel
  have HA := Lib.hid hall
  clear hall
  obtain ⟨_, _, _, _, _, _, k6, -⟩ := HX.out.cells
  rw [hn] at k6
  by_cases hlt : k < n
  ·have hlt' : (k : Int) < (n : Int) := by omega
   obtain ⟨b, off, hap, hcell⟩ := HO.out (by omega)
   obtain ⟨_, _, x0, -⟩ := hcell _ HB0.out k hlt
   rw [hap] at k6
   clear hcell hap
   cases he : ((psth c.prs k).num == x)
   ·have HF := Lib.hid he
    go_wp2_with fail
    go_roundw
    case rel =>
     refine ⟨k + 1, by omega, by go_num, ?_, by first | rfl | trivial⟩
     intro j hj
     by_cases e : j = k
     ·subst e; exact HF.out
     ·exact HA.out j (by omega)
    case measure => simp [intOf]; omega
   ·have HF := Lib.hid he
    go_wp2_with fail
    go_ret
    exact ⟨_, rfl, .inl ⟨k, hlt, HF.out, HA.out, rfl⟩, HB0.out⟩
  ·have hkn : k = n := by omega
   subst hkn
   go_wp2_with fail
   go_ret
   exact ⟨_, rfl, .inr ⟨HA.out, rfl⟩, HB0.out⟩
def ElmIs (l : List Ln) (s : ByteArray) (v : Int) : Prop := (∃ k : Nat, k < l.length ∧ liveF l s k = true ∧ (∀ j, j < k → liveF l s j = false) ∧ v = (lnth l k).kind) ∨ ((∀ j, j < l.length → liveF l s j = false) ∧ v = 0)
theorem ElmIs.zero {l : List Ln} {s : ByteArray} {v : Int} (h : ElmIs l s v) (hk : ∀ j, j < l.length → (lnth l j).kind ≠ 0) : (v == 0) = !liveB l s := by
 rcases h with ⟨k, h1, h2, _, rfl⟩ | ⟨h, rfl⟩
 ·rw [show liveB l s = true from anyN_yes h1 h2]
  simp [hk k h1]
 ·rw [show liveB l s = false from anyN_no h]
  rfl
set_option maxRecDepth 100000 in
set_option maxHeartbeats 2000000 in
theorem elementKind_ref (c : Co) (s : Ly) (t : ByteArray) (w : World) (hc : CameC w s c) :
 Calls Tryz.prog 46 #[.agg (coA c s), .string t] w fun e w' => ∃ v : Int, e = .returned (.int .i64 v) ∧ ElmIs c.lns t v ∧ Below w.heap.size w w' := by
 obtain ⟨n, hn⟩ : ∃ n, s.nl = n := ⟨_, rfl⟩
 obtain ⟨l, hl⟩ : ∃ l, c.lns = l := ⟨_, rfl⟩
 have hm' : n ≤ 9223372036854775807 := by have := hc.ml; rw [hn] at this; unfold maxLen at this; omega
 have HN : Hid (l.length = n) := Lib.hid (by rw [← hl]; exact hc.nl.trans hn)
 have HO := Lib.hid (fun h0 => hc.l.open (n := n) (hc.nl.trans hn) h0)
 rw [hl] at HO ⊢
 have HB0 := Lib.hid (kbelow_box w (.cells (coA c s) 33))
 have HX := Lib.hid (CBox.made w c s)
 clear hc hl
 go_enter Tryz.func46, Tryz.ntmps46
 go_wp2_with fail
 go_loopw [5] (fun i wr => ∃ k : Nat, k ≤ n ∧ i = .int .i64 k ∧ (∀ j, j < k → liveF l t j = false) ∧ wr = w.alloc (.cells (coA c s) 33)) (fun i _ => n - (intOf i).toNat)
 case atStart => exact ⟨0, Nat.zero_le _, rfl, fun j hj => by omega, rfl⟩
 case round =>
  obtain ⟨k, hk, rfl, hall, rfl⟩ := hrel
  have HA := Lib.hid hall
  clear hall
  obtain ⟨_, _, _, _, k4, -⟩ := HX.out.cells
  rw [hn] at k4
  by_cases hlt : k < n
  ·have hlt' : (k : Int) < (n : Int) := by omega
   obtain ⟨b, off, hap, hcell⟩ := HO.out (by omega)
   obtain ⟨_, _, ⟨x0, x1, -⟩, -⟩ := hcell _ HB0.out k hlt
   rw [hap] at k4
   clear hcell hap
   cases hsn : ((lnth l k).name.toList == t.toList)
   ·have h4k : True := trivial
    have HF : Hid (liveF l t k = false) := Lib.hid (by unfold liveF sameT; rw [hsn]; first | rfl | (rw [h4k]; rfl) | simp)
    go_wp2_with fail
    go_roundw
    case rel =>
     refine ⟨k + 1, by omega, by go_num, ?_, by first | rfl | trivial⟩
     intro j hj
     by_cases e : j = k
     ·subst e; exact HF.out
     ·exact HA.out j (by omega)
    case measure => simp [intOf]; omega
   ·by_cases h4 : (lnth l k).kind = 4
    ·have h4k : ((lnth l k).kind == 4) = true := by simp [h4]
     have h4n : ((lnth l k).kind != 4) = false := by simp [h4]
     clear h4
     have HF : Hid (liveF l t k = false) := Lib.hid (by unfold liveF sameT; rw [hsn]; first | rfl | (rw [h4k]; rfl) | simp)
     go_wp2_with fail
     go_roundw
     case rel =>
      refine ⟨k + 1, by omega, by go_num, ?_, by first | rfl | trivial⟩
      intro j hj
      by_cases e : j = k
      ·subst e; exact HF.out
      ·exact HA.out j (by omega)
     case measure => simp [intOf]; omega
    ·have h4k : ((lnth l k).kind == 4) = false := by simp [h4]
     have h4n : ((lnth l k).kind != 4) = true := by simp [h4]
     have HF : Hid (liveF l t k = true) := Lib.hid (by unfold liveF sameT; rw [hsn, h4k]; rfl)
     clear h4
     go_wp2_with fail
     go_ret
     exact ⟨_, rfl, .inl ⟨k, by rw [HN.out]; exact hlt, HF.out, HA.out, rfl⟩, HB0.out⟩
  ·have hkn : k = n := by omega
   subst hkn
   go_wp2_with fail
   go_ret
   exact ⟨_, rfl, .inr ⟨fun j hj => HA.out j (by rw [HN.out] at hj; exact hj), rfl⟩, HB0.out⟩
end Go.Proofs.YtkalfdjmklakdaaGreatDoor
namespace Go.Proofs.YtkalfdjmklakdaaGreatDoor
open Go.RowKit
theorem fstL_cons (e : Int) (l : List Int) : fstL (e :: l) = if e = 0 then fstL l else e := by
 have key : ∀ n, firstE (fun j => (e :: l).getD j 0) (n + 1) = if e = 0 then firstE (fun j => l.getD j 0) n else e := by
  intro n
  induction n with
  | zero =>
    simp only [firstE]
    by_cases h : e = 0
    ·rw [if_pos h, h]; rfl
    ·rw [if_neg h]; rfl
  | succ n ih =>
    rw [firstE, ih]
    by_cases h : e = 0
    ·rw [if_pos h, if_pos h, firstE]; rfl
    ·rw [if_neg h, if_neg h, if_neg h]
 unfold fstL
 exact key l.length
theorem fstL_z {e : Int} {l : List Int} (h : e = 0) : fstL (e :: l) = fstL l := by rw [fstL_cons, if_pos h]
theorem fstL_nz {e : Int} {l : List Int} (h : e ≠ 0) : fstL (e :: l) = e := by rw [fstL_cons, if_neg h]
theorem fstL_ok {b : Bool} {e : Int} {l : List Int} (h : b = false) : fstL (ifE b e :: l) = fstL l := fstL_z (by rw [h]; rfl)
theorem fstL_no {b : Bool} {e : Int} {l : List Int} (h : b = true) (he : e ≠ 0) : fstL (ifE b e :: l) = e := by
 rw [h]
 exact fstL_nz he
theorem fstL_flat (a l : List Int) : fstL (fstL a :: l) = fstL (a ++ l) := by
 induction a with
 | nil => exact fstL_z rfl
 | cons e a ih =>
   rw [List.cons_append, fstL_cons e (a ++ l), ← ih]
   by_cases h : e = 0
   ·rw [if_pos h, fstL_cons e a, if_pos h]
   ·rw [if_neg h, fstL_cons e a, if_neg h, fstL_nz h]
theorem fstL_last (e : Int) : fstL [e] = e := by
 rw [fstL_cons]
 by_cases h : e = 0
 ·rw [if_pos h, h]; rfl
 ·rw [if_neg h]
theorem fstL_cg {e : Int} {l l' : List Int} (h : fstL l = fstL l') : fstL (e :: l) = fstL (e :: l') := by rw [fstL_cons, fstL_cons, h]
def pFst (F : Fs) (c : Co) (n : Nat) : Int := firstE (fun j => fstL (oneL F c (psth c.prs j))) n
def cashF (c : Co) (j : Nat) : Bool := sameT (lnth c.lns j).name cashT
def nobF (c : Co) (j : Nat) : Bool := !perN c.prs (Sq.Slp.snth c.sls j).per
def strF (c : Co) (j : Nat) : Bool := strangeB c.lns (Sq.Slp.snth c.sls j)
def latF (c : Co) (j : Nat) : Bool := decide (c.num < (Sq.Slp.snth c.sls j).run)
def badB (c : Co) : Bool := decide (c.num = 0) && !decide (c.per = 0 ∧ c.run 0 = 0)
theorem coE_flat (F : Fs) (c : Co) : coE F c = fstL [ifE (!Cal.dayB c.today) 3, ifE (decide (19 < c.lns.length ∨ 20 < c.prs.length)) 2, linesE c.lns, ifE (anyN (cashF c) c.lns.length) 4, pFst F c c.prs.length, ifE (!upPs c.prs c.prs.length) 6, ifE (!decide (0 ≤ c.num ∧ c.num ≤ 999)) 3, F.ae c.K c.A c.L c.per, Rn.runE c.run, ifE (badB c) 4, Sq.Slp.slE c.sls, ifE (anyN (nobF c) c.sls.length) 5, ifE (anyN (strF c) c.sls.length) 5, ifE (anyN (latF c) c.sls.length) 3, Sq.Ldg.jrE c.jr, ifE (behB c.jr c.today) 10] := by
 have hp : persE F c = fstL [pFst F c c.prs.length, ifE (!upPs c.prs c.prs.length) 6] := by
  rw [fstL_cons, fstL_last]; rfl
 unfold coE coEs
 refine fstL_cg (fstL_cg (fstL_cg (fstL_cg ?_)))
 rw [hp, fstL_flat]
 refine fstL_cg (fstL_cg ?_)
 refine (fstL_flat _ _).trans (fstL_cg (fstL_cg (fstL_cg (fstL_cg ?_))))
 refine (fstL_flat _ _).trans (fstL_cg (fstL_cg (fstL_cg (fstL_cg ?_))))
 exact fstL_flat _ _
theorem IdxIs.ex (f : Nat → Bool) : ∀ n, ∃ v, IdxIs f n v
 | 0 => ⟨-1, .inr ⟨fun j hj => by omega, rfl⟩⟩
 | n + 1 => by
   obtain ⟨v, ⟨k, h1, h2, h3, h4⟩ | ⟨h, rfl⟩⟩ := IdxIs.ex f n
   ·exact ⟨v, .inl ⟨k, by omega, h2, h3, h4⟩⟩
   ·cases e : f n
    ·refine ⟨-1, .inr ⟨fun j hj => ?_, rfl⟩⟩
     by_cases hjn : j = n
     ·rw [hjn]; exact e
     ·exact h j (by omega)
    ·exact ⟨n, .inl ⟨n, by omega, e, h, rfl⟩⟩
theorem ElmIs.ex (l : List Ln) (s : ByteArray) : ∃ v, ElmIs l s v := by
 obtain ⟨v, ⟨k, h1, h2, h3, _⟩ | ⟨h, _⟩⟩ := IdxIs.ex (liveF l s) l.length
 ·exact ⟨_, .inl ⟨k, h1, h2, h3, rfl⟩⟩
 ·exact ⟨0, .inr ⟨h, rfl⟩⟩
theorem ElmIs.unique {l : List Ln} {s : ByteArray} {v v' : Int} (h : ElmIs l s v) (h' : ElmIs l s v') : v = v' := by
 rcases h with ⟨k, h1, h2, h3, rfl⟩ | ⟨h, rfl⟩ <;> rcases h' with ⟨k', h1', h2', h3', rfl⟩ | ⟨h', rfl⟩
 ·by_cases e : k < k'
  ·rw [h3' k e] at h2; cases h2
  ·by_cases e' : k' < k
   ·rw [h3 k' e'] at h2'; cases h2'
   ·rw [show k = k' by omega]
 ·rw [h' k h1] at h2; cases h2
 ·rw [h k' h1'] at h2'; cases h2'
 ·rfl
theorem firstE_all {f : Nat → Int} : ∀ {n : Nat}, firstE f n = 0 → ∀ j, j < n → f j = 0
 | 0, _, j, hj => by omega
 | n + 1, h, j, hj => by
   rw [firstE] at h
   by_cases h0 : firstE f n = 0
   ·rw [if_pos h0] at h
    by_cases e : j = n
    ·rw [e]; exact h
    ·exact firstE_all h0 j (by omega)
   ·rw [if_neg h0] at h; exact absurd h h0
theorem kinds_ok {l : List Ln} (h : linesE l = 0) : ∀ j, j < l.length → (lnth l j).kind ≠ 0 := by
 intro j hj h0
 unfold linesE at h
 by_cases hm : 40 < l.length ∨ ¬ (sumP l l.length ≤ 4000 ∧ maxD l l.length ≤ 20)
 ·rw [if_pos hm] at h; omega
 ·rw [if_neg hm] at h
  have := firstE_all h j hj
  unfold lineE at this
  rw [if_pos (by omega)] at this
  omega
end Go.Proofs.YtkalfdjmklakdaaGreatDoor
namespace Go.Proofs.YtkalfdjmklakdaaGreatDoor
open Go.RowKit Go.Sort
theorem cash_eq (t : ByteArray) : sameT t cashT = (t.toList == [99, 97, 115, 104]) := by
 unfold sameT
 rw [show cashT.toList = [99, 97, 115, 104] from by decide +kernel]
theorem one_a {F : Fs} {c : Co} {r : Ps} (h : Rn.perB r.num = false) : fstL (oneL F c r) = 3 := fstL_no (by rw [h]; rfl) (by decide)
theorem one_b {F : Fs} {c : Co} {r : Ps} (h : Rn.perB r.num = true) (h2 : (Cal.Bnk.accB r.acc && Cal.Bnk.nameB r.name) = false) : fstL (oneL F c r) = 1 := (fstL_ok (by rw [h]; rfl)).trans (fstL_no (by rw [h2]; rfl) (by decide))
theorem one_c {F : Fs} {c : Co} {r : Ps} (h : Rn.perB r.num = true) (h2 : (Cal.Bnk.accB r.acc && Cal.Bnk.nameB r.name) = true) : fstL (oneL F c r) = F.pe (plOf c r) := (fstL_ok (by rw [h]; rfl)).trans ((fstL_ok (by rw [h2]; rfl)).trans (fstL_last _))
def tailL (c : Co) : List Int := [ifE (anyN (nobF c) c.sls.length) 5, ifE (anyN (strF c) c.sls.length) 5, ifE (anyN (latF c) c.sls.length) 3, Sq.Ldg.jrE c.jr, ifE (behB c.jr c.today) 10]
def midL (F : Fs) (c : Co) : List Int := F.ae c.K c.A c.L c.per :: Rn.runE c.run :: ifE (badB c) 4 :: Sq.Slp.slE c.sls :: tailL c
theorem personAt_one (c : Co) (s : Ly) (x v : Int) (w : World) (hc : CameC w s c) (hv : IdxIs (fun j => (psth c.prs j).num == x) s.np v) :
 Calls Tryz.prog 17 #[.agg (coA c s), .int .i64 x] w fun e w' => e = .returned (.int .i64 v) ∧ Below w.heap.size w w' := by
 refine (personAt_ref c s x w hc).mono ?_
 rintro e w' ⟨u, rfl, hu, hb⟩
 rw [hu.unique hv]
 exact ⟨rfl, hb⟩
theorem elementKind_one (c : Co) (s : Ly) (t : ByteArray) (v : Int) (w : World) (hc : CameC w s c) (hv : ElmIs c.lns t v) :
 Calls Tryz.prog 46 #[.agg (coA c s), .string t] w fun e w' => e = .returned (.int .i64 v) ∧ Below w.heap.size w w' := by
 refine (elementKind_ref c s t w hc).mono ?_
 rintro e w' ⟨u, rfl, hu, hb⟩
 rw [hu.unique hv]
 exact ⟨rfl, hb⟩
theorem quiet_load_row {P : Program} {ops : Array Oper} {C : World → Prop} {Q : Act → Prop} {a : Act} {o : Oper} {rest : List Oper} (ty : TypeId) (x : Operand) (ho : o.op = .load ty x) (hgd : o.guard = none)
 (g : Nat) (hx : a.eval x = .pointer (some ⟨g, 0, none⟩)) (t : TypeId) (cs : Array Value) (fr : Nat × Nat) (d : TypeDesc) (hg : ∀ w, C w → w.heap[g]? = some (.cells cs t fr))
 (hu : P.underlying ty = some d) (hd : (match d with | .struct _ | .array _ _ => true | _ => false) = true) (hi : (P.info? ty).map (·.size) = some cs.size)
 (h : wpQuiet P ops C Q rest (a.put o.dst (.agg cs))) : wpQuiet P ops C Q (o :: rest) a := by
 show if Region.wanted o _ then o.quiet P a C _ else _
 rw [if_pos (by simp [Region.wanted, hgd])]
 refine ⟨.agg cs, fun w hw => ?_, h⟩
 unfold Oper.quietAt execOp
 simp only [ho, hx, Instr.loadAt, Instr.sureAddr, Sem.run_bind, Sem.run_pure, Result.andThen_ok, run_loadVar_row w g t ty cs fr d (hg w hw) hu hd hi]
 exact ⟨rfl, rfl⟩
theorem box_regrown {w : World} {b : Nat} {c : Co} {s : Ly} (h : CBox w b c s) : ∀ w', (∃ p : Regrown, w' = grow (redrawn w p.d) p.os) → w'.heap[b]? = some (.cells (coA c s) 33 (0, 0)) := by
 rintro w' ⟨p, rfl⟩
 exact h.below (below_regrown w p.d p.os) h.lt
set_option maxRecDepth 100000 in
set_option maxHeartbeats 16000000 in
theorem checkCompany_ref (F : Fs) (c : Co) (s : Ly) (w : World) (hc : CameC w s c) :
 Calls Tryz.prog 9 #[.agg (coA c s)] w fun e w' => e = .returned (.int .i64 (coE F c)) ∧ Below w.heap.size w w' := by
 obtain ⟨n, hn⟩ : ∃ n, s.nl = n := ⟨_, rfl⟩
 obtain ⟨m, hm⟩ : ∃ m, s.np = m := ⟨_, rfl⟩
 have hn' : n ≤ 9223372036854775807 := by have := hc.ml; rw [hn] at this; unfold maxLen at this; omega
 have hm' : m ≤ 9223372036854775807 := by have := hc.mp; rw [hm] at this; unfold maxLen at this; omega
 have HNL : Hid (c.lns.length = n) := Lib.hid (hc.nl.trans hn)
 have HNP : Hid (c.prs.length = m) := Lib.hid (hc.np.trans hm)
 have HOL := Lib.hid (fun h0 => hc.l.open (n := n) HNL.out h0)
 have HOP := Lib.hid (fun h0 => hc.p.open (n := m) HNP.out h0)
 have HC := Lib.hid hc
 have HSN := Lib.hid hn
 have HSM := Lib.hid hm
 have HE : Hid (coE F c = fstL (ifE (!Cal.dayB c.today) 3 :: ifE (decide (19 < n ∨ 20 < m)) 2 :: linesE c.lns :: ifE (anyN (cashF c) n) 4 :: pFst F c m :: ifE (!upPs c.prs m) 6 :: ifE (!decide (0 ≤ c.num ∧ c.num ≤ 999)) 3 :: midL F c)) := Lib.hid (by rw [coE_flat, HNL.out, HNP.out]; rfl)
 have HB := Lib.hid (kbelow_box w (.cells (coA c s) 33))
 have HX := Lib.hid (CBox.made w c s)
 clear hc
 obtain ⟨k0, -, -, -, k4, -, k6, -⟩ := HX.out.cells
 rw [hn] at k4
 rw [hm] at k6
 clear hn hm
 go_enter Tryz.func9, Tryz.ntmps9
 go_wp2_with fail
 refine (Cal.isDay_ref _ _).mono ?_
 rintro e w1 ⟨rfl, h'⟩
 subst w1
 cases hd : Cal.dayB c.today
 ·have HR : Hid (coE F c = 3) := Lib.hid (HE.out.trans (fstL_no (by rw [hd]; rfl) (by decide)))
  go_wp2_with fail
  go_ret
  exact ⟨kret_int HR.out.symm, HB.out⟩
 have HE1 := Lib.hid (HE.out.trans (fstL_ok (by rw [hd]; rfl)))
 clear HE
 by_cases h1 : 19 < n
 ·have h1' : decide ((19 : Int) < (n : Int)) = true := decide_eq_true (by omega)
  have HR : Hid (coE F c = 2) := Lib.hid (HE1.out.trans (fstL_no (decide_eq_true (.inl h1)) (by decide)))
  clear h1
  go_wp2_with fail
  go_ret
  exact ⟨kret_int HR.out.symm, HB.out⟩
 have h1' : decide ((19 : Int) < (n : Int)) = false := decide_eq_false (by omega)
 by_cases h2 : 20 < m
 ·have h2' : decide ((20 : Int) < (m : Int)) = true := decide_eq_true (by omega)
  have HR : Hid (coE F c = 2) := Lib.hid (HE1.out.trans (fstL_no (decide_eq_true (.inr h2)) (by decide)))
  clear h1 h2
  go_wp2_with fail
  go_ret
  exact ⟨kret_int HR.out.symm, HB.out⟩
 have h2' : decide ((20 : Int) < (m : Int)) = false := decide_eq_false (by omega)
 have HE2 := Lib.hid (HE1.out.trans (fstL_ok (decide_eq_false (by omega))))
 clear HE1 h1 h2
 go_wp2_with fail
 refine (checkLines_ref s.al n s.cl c.lns _ (HC.out.l.below HB.out) HNL.out (by rw [← HSN.out]; exact HC.out.ml)).mono ?_
 rintro e w1 ⟨rfl, hb1⟩
 have HB1 := Lib.hid (HB.out.trans (hb1.mono HB.out.size))
 have HX1 := Lib.hid (HX.out.below hb1 HX.out.lt)
 clear hb1 k0 k4 k6 HB HX
 by_cases hl : linesE c.lns = 0
 rotate_left
 ·have HR : Hid (coE F c = linesE c.lns) := Lib.hid (HE2.out.trans (fstL_nz hl))
  obtain ⟨x, hx⟩ : ∃ x, linesE c.lns = x := ⟨_, rfl⟩
  rw [hx] at HR hl ⊢
  have hl' : (x != 0) = true := by simp [hl]
  clear hx hl
  go_wp2_with fail
  go_ret
  exact ⟨kret_int HR.out.symm, HB1.out⟩
 have HE3 := Lib.hid (HE2.out.trans (fstL_z hl))
 have HKO := Lib.hid (kinds_ok hl)
 rw [hl]
 clear HE2 hl h1' h2'
 go_wp2_with fail
 go_loopw [4] (fun i wr => ∃ k : Nat, k ≤ n ∧ i = .int .i64 k ∧ (∀ j, j < k → cashF c j = false) ∧ CBox wr w.heap.size c s ∧ Below w.heap.size w wr) (fun i _ => n - (intOf i).toNat)
 case atStart => exact ⟨0, Nat.zero_le _, rfl, fun j hj => by omega, HX1.out, HB1.out⟩
 case round =>
  clear HX1 HB1
  obtain ⟨k, hk, rfl, hall, hx, hb⟩ := hrel
  have HA := Lib.hid hall
  have HX := Lib.hid hx
  have HB := Lib.hid hb
  clear hall hx hb
  obtain ⟨-, -, -, -, k4, -⟩ := HX.out.cells
  rw [HSN.out] at k4
  by_cases hlt : k < n
  ·have hlt' : (k : Int) < (n : Int) := by omega
   obtain ⟨b, off, hap, hcell⟩ := HOL.out (by omega)
   obtain ⟨_, _, ⟨_, x1, -⟩, -⟩ := hcell _ HB.out k hlt
   rw [hap] at k4
   clear hcell hap
   have HCE : Hid (cashF c k = ((lnth c.lns k).name.toList == [99, 97, 115, 104])) := cash_eq _
   cases hs : ((lnth c.lns k).name.toList == [99, 97, 115, 104])
   ·have HF : Hid (cashF c k = false) := Lib.hid (HCE.out.trans hs)
    go_wp2_with fail
    go_roundw
    case rel =>
     refine ⟨k + 1, by omega, by go_num, ?_, HX.out, HB.out⟩
     intro j hj
     by_cases e : j = k
     ·subst e; exact HF.out
     ·exact HA.out j (by omega)
    case measure => simp [intOf]; omega
   ·have HR : Hid (coE F c = 4) := Lib.hid (HE3.out.trans (fstL_no (anyN_yes hlt (HCE.out.trans hs)) (by decide)))
    go_wp2_with fail
    go_ret
    exact ⟨kret_int HR.out.symm, HB.out⟩
  have hkn : k = n := by omega
  subst hkn
  have HE4 := Lib.hid (HE3.out.trans (fstL_ok (anyN_no HA.out)))
  clear HE3 HA hlt hk HOL
  go_wp2_with fail
  clear k4
  generalize wr = wu at *
  go_loopw [5] (fun i wr => ∃ k : Nat, k ≤ m ∧ i = .int .i64 k ∧ pFst F c k = 0 ∧ CBox wr w.heap.size c s ∧ Below w.heap.size w wr) (fun i _ => m - (intOf i).toNat)
  case atStart => exact ⟨0, Nat.zero_le _, rfl, rfl, HX.out, HB.out⟩
  case round =>
   clear HX HB
   obtain ⟨k, hk, rfl, hz, hx, hb⟩ := hrel
   have HZ := Lib.hid hz
   have HX := Lib.hid hx
   have HB := Lib.hid hb
   clear hz hx hb
   obtain ⟨-, -, -, -, -, -, k6, -⟩ := HX.out.cells
   rw [HSM.out] at k6
   by_cases hlt : k < m
   ·have hlt' : (k : Int) < (m : Int) := by omega
    obtain ⟨b, off, hap, hcell⟩ := HOP.out (by omega)
    obtain ⟨ax, cx, x0, x1, x2, x3, hi, m1, m2, m3⟩ := hcell _ HB.out k hlt
    rw [hap] at k6
    clear hcell hap
    obtain ⟨r, hr⟩ : ∃ r, psth c.prs k = r := ⟨_, rfl⟩
    have HS : Hid (pFst F c (k + 1) = fstL (oneL F c r)) := Lib.hid ((firstE_ok HZ.out).trans (by rw [hr]))
    have HER : Hid (∀ y, fstL (oneL F c r) = y → y ≠ 0 → coE F c = y) := fun y hy h => by
     have e : pFst F c m = y := (firstE_err (f := fun j => fstL (oneL F c (psth c.prs j))) hlt HZ.out (by rw [hr, hy]; exact h)).trans (by rw [hr, hy])
     exact HE4.out.trans ((fstL_nz (by rw [e]; exact h)).trans e)
    rw [hr] at x0 x1 x2 x3 hi m1 m2 m3
    clear hr
    have hbr := kbelow_box wr (.cells #[.int .i64 r.num, .string r.name, .string r.acc, .slice ax r.ins.length cx] 57)
    have HB1 := Lib.hid (HB.out.trans (hbr.mono HB.out.size))
    have HX1 := Lib.hid (HX.out.below hbr HX.out.lt)
    have HQ := Lib.hid (planOf_ref c s r ax cx (wr.alloc (.cells #[.int .i64 r.num, .string r.name, .string r.acc, .slice ax r.ins.length cx] 57)))
    have HBR := Lib.hid hbr
    have HPL : Hid (∀ w', Below wr.heap.size wr w' → Calls Tryz.prog 42 #[.agg #[.int .i64 c.K, .int .i64 c.A, .int .i64 c.L, .slice s.al s.nl s.cl, .slice s.at' s.nt s.ct, .slice ax r.ins.length cx]] w' fun e w'' => e = .returned (.int .i64 (F.pe (plOf c r))) ∧ Below w'.heap.size w' w'') := fun w' hb => by
     refine (checkPlan_ref (plOf c r) s.al s.at' ax s.nl s.nt r.ins.length s.cl s.ct cx w' ((HC.out.below (HB.out.trans (hb.mono HB.out.size))).plan (hi.below hb) m3) HC.out.nl HC.out.nt rfl).mono ?_
     rintro e w'' ⟨x, rfl, hx, hb2⟩
     rw [F.hp _ _ hx]
     exact ⟨rfl, hb2⟩
    have HM1 : Hid (r.acc.size ≤ 9223372036854775807 ∧ r.name.size ≤ 9223372036854775807) := Lib.hid (by unfold maxLen at m1 m2; omega)
    clear hbr hi m1 m2 m3
    obtain ⟨ni, hni⟩ : ∃ ni, r.ins.length = ni := ⟨_, rfl⟩
    rw [hni] at x3 HB1 HX1 HQ HPL HBR
    clear hni
    go_wp2_with fail
    refine (Rn.isPerson_ref _ _).mono ?_
    rintro e w1 ⟨rfl, h'⟩
    subst w1
    cases hp : Rn.perB r.num
    ·have HR := Lib.hid (HER.out 3 (one_a hp) (by decide))
     go_wp2_with fail
     go_ret
     exact ⟨kret_int HR.out.symm, HB1.out⟩
    go_wp2_with fail
    refine (Cal.Bnk.isBankAccount_ref _ _ HM1.out.1).mono ?_
    rintro e w1 ⟨rfl, h'⟩
    subst w1
    cases ha : Cal.Bnk.accB r.acc
    ·have HR := Lib.hid (HER.out 1 (one_b hp (by rw [ha]; rfl)) (by decide))
     go_wp2_with fail
     go_ret
     exact ⟨kret_int HR.out.symm, HB1.out⟩
    go_wp2_with fail
    refine (Cal.Bnk.isPayee_ref _ _ HM1.out.2).mono ?_
    rintro e w1 ⟨he, h'⟩
    have he' : e = .returned (.bool (Cal.Bnk.nameB r.name)) := he
    clear he
    subst w1 he'
    cases hnm : Cal.Bnk.nameB r.name
    ·have HR := Lib.hid (HER.out 1 (one_b hp (by rw [ha, hnm]; rfl)) (by decide))
     go_wp2_with fail
     go_ret
     exact ⟨kret_int HR.out.symm, HB1.out⟩
    have HO := Lib.hid (one_c (F := F) (c := c) hp (by rw [ha, hnm]; rfl))
    clear hp ha hnm
    obtain ⟨y, hy⟩ : ∃ y, F.pe (plOf c r) = y := ⟨_, rfl⟩
    rw [hy] at HO HPL
    clear hy
    by_cases hy0 : y = 0
    ·subst hy0
     go_wp2_with (first | (refine wpList_load_row rfl 33 (.tmp 1) rfl w.heap.size rfl 33 (coA c s) (0, 0) _ HX1.out Tryz.underlying33 rfl (coInfo c s) ?_))
     refine HQ.out.mono ?_
     rintro e w2 ⟨rfl, hb2⟩
     have HBR2 := Lib.hid (HBR.out.trans (hb2.mono HBR.out.size))
     have HB2 := Lib.hid (HB1.out.trans (hb2.mono HB1.out.size))
     have HX2 := Lib.hid (HX1.out.below hb2 HX1.out.lt)
     clear hb2
     go_wp2_with fail
     refine (HPL.out _ HBR2.out).mono ?_
     rintro e w3 ⟨rfl, hb3⟩
     have HB3 := Lib.hid (HB2.out.trans (hb3.mono HB2.out.size))
     have HX3 := Lib.hid (HX2.out.below hb3 HX2.out.lt)
     clear hb3 HX2 HB2 HX1 HB1 HQ HPL HBR HBR2
     go_wp2_with fail
     go_roundw
     case rel => exact ⟨k + 1, by omega, by go_num, HS.out.trans HO.out, HX3.out, HB3.out⟩
     case measure => simp [intOf]; omega
    ·have HR := Lib.hid (HER.out y HO.out hy0)
     have hy1 : (y != 0) = true := by simp [hy0]
     clear hy0
     go_wp2_with (first | (refine wpList_load_row rfl 33 (.tmp 1) rfl w.heap.size rfl 33 (coA c s) (0, 0) _ HX1.out Tryz.underlying33 rfl (coInfo c s) ?_))
     refine HQ.out.mono ?_
     rintro e w2 ⟨rfl, hb2⟩
     have HBR2 := Lib.hid (HBR.out.trans (hb2.mono HBR.out.size))
     have HB2 := Lib.hid (HB1.out.trans (hb2.mono HB1.out.size))
     have HX2 := Lib.hid (HX1.out.below hb2 HX1.out.lt)
     clear hb2
     go_wp2_with fail
     refine (HPL.out _ HBR2.out).mono ?_
     rintro e w3 ⟨rfl, hb3⟩
     have HB3 := Lib.hid (HB2.out.trans (hb3.mono HB2.out.size))
     have HX3 := Lib.hid (HX2.out.below hb3 HX2.out.lt)
     clear hb3 HX2 HB2 HX1 HB1 HQ HPL HBR HBR2
     go_wp2_with fail
     go_ret
     exact ⟨kret_int HR.out.symm, HB3.out⟩
   have hkm : k = m := by omega
   subst hkm
   have HE5 := Lib.hid (HE4.out.trans (fstL_z HZ.out))
   clear HE4 HZ hlt hk
   go_wp2_with fail
   clear k6
   generalize wr = wv at *
   go_loopw [8] (fun i wq => ∃ j : Nat, (j + 1 ≤ k ∨ j = 0) ∧ i = .int .i64 ((j : Int) + 1) ∧ (∀ i, i < j → (psth c.prs i).num < (psth c.prs (i + 1)).num) ∧ CBox wq w.heap.size c s ∧ Below w.heap.size w wq) (fun i _ => k - (intOf i).toNat)
   case atStart => exact ⟨0, .inr rfl, rfl, fun j hj => by omega, HX.out, HB.out⟩
   case round =>
    clear HX HB
    obtain ⟨j, hjk, rfl, hall, hx, hb⟩ := hrel
    have HA := Lib.hid hall
    have HX := Lib.hid hx
    have HB := Lib.hid hb
    clear hall hx hb
    obtain ⟨-, k1, k2, k3, -, -, k6, k7, k8, -⟩ := HX.out.cells
    rw [HSM.out] at k6
    by_cases hlt : j + 1 < k
    ·have hlt' : (j : Int) + 1 < (k : Int) := by omega
     have hlt0 : (j : Int) < (k : Int) := by omega
     obtain ⟨b, off, hap, hcell⟩ := HOP.out (by omega)
     rw [hap] at k6
     obtain ⟨_, _, x0, -⟩ := hcell _ HB.out j (by omega)
     obtain ⟨_, _, y0, -⟩ := hcell _ HB.out (j + 1) (by omega)
     clear hcell hap
     have hsub : (j : Int) + 1 - 1 = (j : Int) := by omega
     have htn : ((j : Int) + 1).toNat = j + 1 := by omega
     have HUN := Lib.hid (fun h => upPs_at (l := c.prs) (j := j) hlt h)
     obtain ⟨u, hu⟩ : ∃ u, (psth c.prs j).num = u := ⟨_, rfl⟩
     obtain ⟨v, hv⟩ : ∃ v, (psth c.prs (j + 1)).num = v := ⟨_, rfl⟩
     rw [hu] at x0 HUN
     rw [hv] at y0 HUN
     have HU := Lib.hid hu
     have HW := Lib.hid hv
     clear hu hv
     by_cases hd : v ≤ u
     ·have hd1 : decide (v ≤ u) = true := decide_eq_true hd
      have HT := Lib.hid (HUN.out hd)
      have HR : Hid (coE F c = 6) := Lib.hid (HE5.out.trans (fstL_no (by rw [HT.out]; rfl) (by decide)))
      clear hd
      go_wp2_with fail
      go_quiet (fail)
      go_wp2_with fail
      go_ret
      exact ⟨kret_int HR.out.symm, kbelow_dN HB.out _⟩
     ·have hd1 : decide (v ≤ u) = false := decide_eq_false hd
      have HD : Hid (u < v) := by unfold Hid; omega
      clear hd
      go_wp2_with fail
      go_quiet (fail)
      go_wp2_with fail
      go_roundw
      case rel =>
       refine ⟨j + 1, .inl (by omega), by go_num, ?_, HX.out.below (kbelow_dN (Below.refl _ _) _) HX.out.lt, kbelow_dN HB.out _⟩
       intro i hi
       by_cases e : i = j
       ·subst e; rw [HU.out, HW.out]; exact HD.out
       ·exact HA.out i (by omega)
      case measure => simp [intOf]; omega
    have hnl : ¬ ((j : Int) + 1 < (k : Int)) := by omega
    have HE6 := Lib.hid (HE5.out.trans (fstL_ok (by rw [show upPs c.prs k = true from upPs_all fun i hi => HA.out i (by omega)]; rfl)))
    clear HE5 HA hlt hjk
    by_cases h1 : c.num < 0
    ·have h1' : decide (c.num < 0) = true := decide_eq_true h1
     have HR : Hid (coE F c = 3) := Lib.hid (HE6.out.trans (fstL_no (by rw [decide_eq_false (by omega)]; rfl) (by decide)))
     clear h1
     go_wp2_with fail
     go_ret
     exact ⟨kret_int HR.out.symm, HB.out⟩
    have h1' : decide (c.num < 0) = false := decide_eq_false h1
    by_cases h2 : 999 < c.num
    ·have h2' : decide (999 < c.num) = true := decide_eq_true h2
     have HR : Hid (coE F c = 3) := Lib.hid (HE6.out.trans (fstL_no (by rw [decide_eq_false (by omega)]; rfl) (by decide)))
     clear h1 h2
     go_wp2_with fail
     go_ret
     exact ⟨kret_int HR.out.symm, HB.out⟩
    have h2' : decide (999 < c.num) = false := decide_eq_false h2
    have HE7 := Lib.hid (HE6.out.trans (fstL_ok (by rw [decide_eq_true (by omega)]; rfl)))
    clear HE6 h1 h2 HOP
    go_wp2_with fail
    refine (Cal.periodAt_ref c.K c.A c.L c.per _).mono ?_
    rintro e w1 ⟨f, t, er, rfl, hat, hb1⟩
    have her := F.ha _ _ _ _ _ _ _ hat
    have hb2 := hb1.alloc hb1.size (.cells #[.int .i64 f, .int .i64 t] 41)
    have HB1 := Lib.hid (HB.out.trans (hb2.mono HB.out.size))
    have HX1 := Lib.hid (HX.out.below hb2 HX.out.lt)
    clear hat hb1 hb2 HX HB k1 k2 k3 k6 k7 k8
    unfold midL at HE7
    rw [← her] at HE7
    clear her
    by_cases hz : er = 0
    rotate_left
    ·have HR := Lib.hid (HE7.out.trans (fstL_nz hz))
     have hz1 : (er == 0) = false := by simp [hz]
     have hz2 : (er != 0) = true := by simp [hz]
     clear hz
     go_wp2_with fail
     go_ret
     exact ⟨kret_int HR.out.symm, HB1.out⟩
    subst hz
    have HE8 := Lib.hid (HE7.out.trans (fstL_z rfl))
    clear HE7
    obtain ⟨-, -, -, -, -, -, -, k7, k8, k9, k10, k11, k12, k13, k14, k15, k16, -⟩ := HX1.out.cells
    go_wp2_with fail
    refine (Rn.checkRun_ref c.run _).mono ?_
    rintro e w2 ⟨rfl, hb2⟩
    have HB2 := Lib.hid (HB1.out.trans (hb2.mono HB1.out.size))
    have HX2 := Lib.hid (HX1.out.below hb2 HX1.out.lt)
    clear hb2 HX1 HB1 k7 k8 k9 k10 k11 k12 k13 k14 k15 k16
    obtain ⟨x, hx⟩ : ∃ x, Rn.runE c.run = x := ⟨_, rfl⟩
    rw [hx] at HE8 ⊢
    clear hx
    by_cases hz : x = 0
    rotate_left
    ·have HR := Lib.hid (HE8.out.trans (fstL_nz hz))
     have hz1 : (x == 0) = false := by simp [hz]
     have hz2 : (x != 0) = true := by simp [hz]
     clear hz
     go_wp2_with fail
     go_ret
     exact ⟨kret_int HR.out.symm, HB2.out⟩
    subst hz
    have HE9 := Lib.hid (HE8.out.trans (fstL_z rfl))
    clear HE8
    obtain ⟨-, -, -, -, -, -, -, k7, k8, k9, -⟩ := HX2.out.cells
    go_upto_region 34 with fail
    go_cut [140] from 123 to 140 (fun v wx => v = .bool (badB c) ∧ wx = w2)
    case first =>
     by_cases h1 : c.num = 0
     ·have h1' : (c.num == 0) = true := by simp [h1]
      by_cases h2 : c.per = 0
      ·have h2' : (c.per != 0) = false := by simp [h2]
       by_cases h3 : c.run 0 = 0
       ·have h3' : (c.run 0 != 0) = false := by simp [h3]
        have HD : Hid (false = badB c) := by unfold Hid badB; rw [decide_eq_true h1, decide_eq_true ⟨h2, h3⟩]; rfl
        clear h1 h2 h3
        go_wp2_with fail
        go_meet
        case rel => exact ⟨congrArg Value.bool HD.out, rfl⟩
       ·have h3' : (c.run 0 != 0) = true := by simp [h3]
        have HD : Hid (true = badB c) := by unfold Hid badB; rw [decide_eq_true h1, decide_eq_false (p := c.per = 0 ∧ c.run 0 = 0) (fun h => h3 h.2)]; rfl
        clear h1 h2 h3
        go_wp2_with fail
        go_meet
        case rel => exact ⟨congrArg Value.bool HD.out, rfl⟩
      ·have h2' : (c.per != 0) = true := by simp [h2]
       have HD : Hid (true = badB c) := by unfold Hid badB; rw [decide_eq_true h1, decide_eq_false (p := c.per = 0 ∧ c.run 0 = 0) (fun h => h2 h.1)]; rfl
       clear h1 h2
       go_wp2_with fail
       go_meet
       case rel => exact ⟨congrArg Value.bool HD.out, rfl⟩
     ·have h1' : (c.num == 0) = false := by simp [h1]
      have HD : Hid (false = badB c) := by unfold Hid badB; rw [decide_eq_false h1]; rfl
      clear h1
      go_wp2_with fail
      go_meet
      case rel => exact ⟨congrArg Value.bool HD.out, rfl⟩
    case rest =>
     clear k7 k8 k9
     obtain ⟨rfl, rfl⟩ := hcut
     cases hbad : badB c
     rotate_left
     ·have HR := Lib.hid (HE9.out.trans (fstL_no hbad (by decide)))
      go_wp2_with fail
      go_ret
      exact ⟨kret_int HR.out.symm, HB2.out⟩
     have HE10 := Lib.hid (HE9.out.trans (fstL_ok hbad))
     clear HE9 hbad
     obtain ⟨-, -, -, -, -, -, -, -, -, -, -, -, -, -, -, -, -, k17, -⟩ := HX2.out.cells
     go_wp2_with fail
     refine (Sq.Slp.checkSlips_ref s.az s.nz s.cz c.sls _ (HC.out.z.below HB2.out) HC.out.nz).mono ?_
     rintro e w3 ⟨rfl, hb3⟩
     have HB3 := Lib.hid (HB2.out.trans (hb3.mono HB2.out.size))
     have HX3 := Lib.hid (HX2.out.below hb3 HX2.out.lt)
     clear hb3 HX2 HB2 k17
     obtain ⟨x, hx⟩ : ∃ x, Sq.Slp.slE c.sls = x := ⟨_, rfl⟩
     rw [hx] at HE10 ⊢
     clear hx
     by_cases hz : x = 0
     rotate_left
     ·have HR := Lib.hid (HE10.out.trans (fstL_nz hz))
      have hz2 : (x != 0) = true := by simp [hz]
      clear hz
      go_wp2_with fail
      go_ret
      exact ⟨kret_int HR.out.symm, HB3.out⟩
     subst hz
     have HE11 := Lib.hid (HE10.out.trans (fstL_z rfl))
     clear HE10
     unfold tailL at HE11
     obtain ⟨z, hzz⟩ : ∃ z, s.nz = z := ⟨_, rfl⟩
     have HSZ := Lib.hid hzz
     have HNZ : Hid (c.sls.length = z) := Lib.hid (HC.out.nz.trans hzz)
     have HOZ := Lib.hid (fun h0 => HC.out.z.open (n := z) HNZ.out h0)
     have hz' : z ≤ 9223372036854775807 := by have := HC.out.mz; rw [hzz] at this; unfold maxLen at this; omega
     rw [HNZ.out] at HE11
     clear hzz
     go_wp2_with fail
     go_loopw [11, 12] (fun lt i wr => ∃ q : Nat, q ≤ z ∧ i = .int .i64 q ∧ lt = .bool (anyN (latF c) q) ∧ (∀ j, j < q → nobF c j = false ∧ strF c j = false) ∧ CBox wr w.heap.size c s ∧ Below w.heap.size w wr) (fun _ i _ => z - (intOf i).toNat)
     case atStart => exact ⟨0, Nat.zero_le _, rfl, rfl, fun j hj => by omega, HX3.out, HB3.out⟩
     case round =>
      clear HX3 HB3
      obtain ⟨q, hq, rfl, rfl, hall, hx, hb⟩ := hrel
      have HA := Lib.hid hall
      have HX := Lib.hid hx
      have HB := Lib.hid hb
      clear hall hx hb
      obtain ⟨-, -, -, -, -, -, -, -, -, -, -, -, -, -, -, -, -, k17, -⟩ := HX.out.cells
      rw [HSZ.out] at k17
      by_cases hlt : q < z
      ·have hlt' : (q : Int) < (z : Int) := by omega
       obtain ⟨b, off, hap, hcell⟩ := HOZ.out (by omega)
       obtain ⟨⟨_, x1, x2, _⟩, ax, cx, x4, hp⟩ := hcell _ HB.out q hlt
       rw [hap] at k17
       have HCELL := Lib.hid hcell
       have HAP := Lib.hid hap
       clear hcell hap
       obtain ⟨r, hr⟩ : ∃ r, Sq.Slp.snth c.sls q = r := ⟨_, rfl⟩
       rw [hr] at x1 x2 x4 hp
       have HRQ := Lib.hid hr
       clear hr
       obtain ⟨v, hv⟩ := IdxIs.ex (fun j => (psth c.prs j).num == r.per) s.np
       have HV : Hid (v < 0 ↔ nobF c q = true) := by
        unfold Hid nobF perN
        rw [HRQ.out, HC.out.np, hv.neg]
        cases anyN (fun j => (psth c.prs j).num == r.per) s.np <;> simp
       have HCA := Lib.hid (fun w' (hb : Below wr.heap.size wr w') => personAt_one c s r.per v w' (HC.out.below (HB.out.trans (hb.mono HB.out.size))) hv)
       clear hv
       have g2 := cell_regrown k17
       have g3 := cell_regrown x1
       obtain ⟨lt, hlte⟩ : ∃ lt, anyN (latF c) q = lt := ⟨_, rfl⟩
       have HLT := Lib.hid hlte
       rw [hlte]
       clear hlte
       by_cases hneg : v < 0
       ·have hneg' : decide (v < 0) = true := decide_eq_true hneg
        have HR := Lib.hid (HE11.out.trans (fstL_no (anyN_yes hlt (HV.out.1 hneg)) (by decide)))
        clear hneg
        go_wp2_with fail
        refine wp_region_quiet_below (by kernel_rfl) (by kernel_rfl) ?_
        refine quiet_load_row 33 (.tmp 1) rfl rfl w.heap.size rfl 33 (coA c s) (0, 0) _ (box_regrown HX.out) Tryz.underlying33 rfl (coInfo c s) ?_
        repeat (first | go_big_quiet_step (exact Calls.regrown_of (HCA.out _ (below_regrown _ _ _))) | quiet_step (exact Calls.regrown_of (HCA.out _ (below_regrown _ _ _))))
        refine wpQuiet_nil ?_
        intro _ hw'
        obtain ⟨⟨dq, osq⟩, hw''⟩ := hw'
        subst hw''
        have HB2 := Lib.hid (HB.out.trans ((below_regrown wr dq osq).mono HB.out.size))
        go_wp2_with fail
        go_ret
        exact ⟨kret_int HR.out.symm, HB2.out⟩
       have hneg' : decide (v < 0) = false := decide_eq_false hneg
       have HNF : Hid (nobF c q = false) := by
        unfold Hid
        cases e : nobF c q
        ·rfl
        ·exact absurd (HV.out.2 e) hneg
       clear hneg HV
       go_wp2_with fail
       refine wp_region_quiet_below (by kernel_rfl) (by kernel_rfl) ?_
       refine quiet_load_row 33 (.tmp 1) rfl rfl w.heap.size rfl 33 (coA c s) (0, 0) _ (box_regrown HX.out) Tryz.underlying33 rfl (coInfo c s) ?_
       repeat (first | go_big_quiet_step (exact Calls.regrown_of (HCA.out _ (below_regrown _ _ _))) | quiet_step (exact Calls.regrown_of (HCA.out _ (below_regrown _ _ _))))
       refine wpQuiet_nil ?_
       intro _ hw'
       obtain ⟨⟨dq, osq⟩, hw''⟩ := hw'
       subst hw''
       have HB2 := Lib.hid (HB.out.trans ((below_regrown wr dq osq).mono HB.out.size))
       have HX2 := Lib.hid (HX.out.below (below_regrown wr dq osq) HX.out.lt)
       clear HX HB HCA g2 g3 k17 x1 x2 x4 hneg'
       go_wp2_with fail
       generalize grow (redrawn wr dq) osq = wx at *
       go_loopw [13] (fun i wy => ∃ y : Nat, y ≤ r.tot.length ∧ i = .int .i64 y ∧ (∀ j, j < y → liveB c.lns (Sq.anth r.tot j).name = true) ∧ CBox wy w.heap.size c s ∧ Below w.heap.size w wy) (fun i _ => r.tot.length - (intOf i).toNat)
       case atStart => exact ⟨0, Nat.zero_le _, rfl, fun j hj => by omega, HX2.out, HB2.out⟩
       case round =>
        clear HX2 HB2
        obtain ⟨y, hy, rfl, hally, hx, hb⟩ := hrel
        have HAY := Lib.hid hally
        have HX := Lib.hid hx
        have HB := Lib.hid hb
        clear hally hx hb
        obtain ⟨-, -, -, -, -, -, -, k7, -, -, -, -, -, -, -, -, -, k17, -⟩ := HX.out.cells
        rw [HSZ.out, HAP.out] at k17
        obtain ⟨⟨_, _, x2, _⟩, ax, cx, x4, hp⟩ := HCELL.out _ HB.out q hlt
        rw [HRQ.out] at x2 x4 hp
        have HRL : Hid (r.tot.length ≤ 9223372036854775807) := Lib.hid (by have := hp.2.2; unfold maxLen at this; omega)
        have HP := Lib.hid (fun h0 => hp.1.open (n := r.tot.length) rfl h0)
        clear hp
        obtain ⟨tl, htl⟩ : ∃ tl, r.tot.length = tl := ⟨_, rfl⟩
        have HTL := Lib.hid htl
        rw [htl] at x4 hy HRL HP ⊢
        clear htl
        by_cases hly : y < tl
        ·have hly' : (y : Int) < (tl : Int) := by omega
         have htl' := HRL.out
         obtain ⟨b2, off2, rfl, hcl2⟩ := HP.out (by omega)
         obtain ⟨z0, z1⟩ := hcl2 wr (Below.refl _ _) y hly
         clear hcl2
         obtain ⟨t, ht⟩ : ∃ t, (Sq.anth r.tot y).name = t := ⟨_, rfl⟩
         rw [ht] at z0
         have HT := Lib.hid ht
         clear ht
         obtain ⟨v, hv⟩ := ElmIs.ex c.lns t
         have HV := Lib.hid (hv.zero HKO.out)
         have HCB := Lib.hid (fun w' (hb : Below wr.heap.size wr w') => elementKind_one c s t v w' (HC.out.below (HB.out.trans (hb.mono HB.out.size))) hv)
         clear hv
         have g2 := cell_regrown k17
         have g3 := cell_regrown x4
         have g4 := cell_regrown z0
         cases hvz : (v == 0)
         ·have HLV : Hid (liveB c.lns t = true) := by
           unfold Hid
           have e := HV.out
           rw [hvz] at e
           cases h : liveB c.lns t
           ·rw [h] at e; cases e
           ·rfl
          go_wp2_with fail
          refine wp_region_quiet_below (by kernel_rfl) (by kernel_rfl) ?_
          refine quiet_load_row 33 (.tmp 1) rfl rfl w.heap.size rfl 33 (coA c s) (0, 0) _ (box_regrown HX.out) Tryz.underlying33 rfl (coInfo c s) ?_
          repeat (first | go_big_quiet_step (exact Calls.regrown_of (HCB.out _ (below_regrown _ _ _))) | quiet_step (exact Calls.regrown_of (HCB.out _ (below_regrown _ _ _))))
          refine wpQuiet_nil ?_
          intro _ hw'
          obtain ⟨⟨dq, osq⟩, hw''⟩ := hw'
          subst hw''
          have HB2 := Lib.hid (HB.out.trans ((below_regrown wr dq osq).mono HB.out.size))
          have HX2 := Lib.hid (HX.out.below (below_regrown wr dq osq) HX.out.lt)
          go_wp2_with fail
          go_roundw
          case rel =>
           refine ⟨y + 1, by omega, by go_num, ?_, HX2.out, HB2.out⟩
           intro j hj
           by_cases e : j = y
           ·subst e; rw [HT.out]; exact HLV.out
           ·exact HAY.out j (by omega)
          case measure => simp [intOf]; omega
         ·have HR : Hid (coE F c = 5) := by
           unfold Hid
           have hst : strF c q = true := by
            have e := HV.out
            rw [hvz] at e
            unfold strF strangeB
            rw [HRQ.out, HTL.out]
            exact anyN_yes hly (by rw [HT.out]; exact e.symm)
           rw [HE11.out]
           cases h : anyN (nobF c) z
           ·exact (fstL_ok rfl).trans (fstL_no (anyN_yes hlt hst) (by decide))
           ·exact fstL_no rfl (by decide)
          go_wp2_with fail
          refine wp_region_quiet_below (by kernel_rfl) (by kernel_rfl) ?_
          refine quiet_load_row 33 (.tmp 1) rfl rfl w.heap.size rfl 33 (coA c s) (0, 0) _ (box_regrown HX.out) Tryz.underlying33 rfl (coInfo c s) ?_
          repeat (first | go_big_quiet_step (exact Calls.regrown_of (HCB.out _ (below_regrown _ _ _))) | quiet_step (exact Calls.regrown_of (HCB.out _ (below_regrown _ _ _))))
          refine wpQuiet_nil ?_
          intro _ hw'
          obtain ⟨⟨dq, osq⟩, hw''⟩ := hw'
          subst hw''
          have HB2 := Lib.hid (HB.out.trans ((below_regrown wr dq osq).mono HB.out.size))
          go_wp2_with fail
          go_ret
          exact ⟨kret_int HR.out.symm, HB2.out⟩
        have hyt : y = tl := by omega
        subst hyt
        have HSF : Hid (strF c q = false) := by
         unfold Hid strF strangeB
         rw [HRQ.out, HTL.out]
         exact anyN_no fun j hj => by rw [HAY.out j hj]; rfl
        have HLS : Hid (anyN (latF c) (q + 1) = (lt || decide (c.num < r.run))) := by unfold Hid; rw [anyN_succ, HLT.out]; unfold latF; rw [HRQ.out]
        have HAN : Hid (∀ j, j < q + 1 → nobF c j = false ∧ strF c j = false) := fun j hj => by
         by_cases e : j = q
         ·subst e; exact ⟨HNF.out, HSF.out⟩
         ·exact HA.out j (by omega)
        clear HSF HNF HAY HP HRL hly hy
        go_wp2_with fail
        cases lt
        ·have HLX : Hid (anyN (latF c) (q + 1) = decide (c.num < r.run)) := by unfold Hid; rw [HLS.out]; rfl
         obtain ⟨rr, hrr⟩ : ∃ rr, r.run = rr := ⟨_, rfl⟩
         obtain ⟨nn, hnn⟩ : ∃ nn, c.num = nn := ⟨_, rfl⟩
         rw [hrr] at x2
         rw [hnn] at k7
         rw [hrr, hnn] at HLX
         clear hrr hnn
         go_quiet (fail)
         go_wp2_with fail
         go_roundw
         case rel => exact ⟨q + 1, by omega, by go_num, by rw [HLX.out], HAN.out, HX.out.below (kbelow_dN (Below.refl _ _) _) HX.out.lt, kbelow_dN HB.out _⟩
         case measure => simp [intOf]; omega
        ·have HLX : Hid (anyN (latF c) (q + 1) = true) := by unfold Hid; rw [HLS.out]; rfl
         go_quiet (fail)
         go_wp2_with fail
         go_roundw
         case rel => exact ⟨q + 1, by omega, by go_num, by rw [HLX.out], HAN.out, HX.out.below (kbelow_dN (Below.refl _ _) _) HX.out.lt, kbelow_dN HB.out _⟩
         case measure => simp [intOf]; omega
      have hqz : q = z := by omega
      subst hqz
      have HE12 := Lib.hid (HE11.out.trans ((fstL_ok (anyN_no fun j hj => (HA.out j hj).1)).trans (fstL_ok (anyN_no fun j hj => (HA.out j hj).2))))
      clear HE11 HA HOZ hlt hq
      obtain ⟨k0, -, -, -, -, -, -, -, -, -, -, -, -, -, -, -, -, -, k18⟩ := HX.out.cells
      cases hlt : anyN (latF c) q
      rotate_left
      ·have HR := Lib.hid (HE12.out.trans (fstL_no hlt (by decide)))
       go_wp2_with fail
       go_ret
       exact ⟨kret_int HR.out.symm, HB.out⟩
      have HE13 := Lib.hid (HE12.out.trans (fstL_ok hlt))
      clear HE12 hlt
      go_wp2_with fail
      refine (Sq.Ldg.checkJournal_ref s.aj s.nj s.cj c.jr _ (HC.out.j.below HB.out) HC.out.nj).mono ?_
      rintro e w4 ⟨rfl, hb4⟩
      have HB4 := Lib.hid (HB.out.trans (hb4.mono HB.out.size))
      have HX4 := Lib.hid (HX.out.below hb4 HX.out.lt)
      clear hb4 HX HB k0 k18
      obtain ⟨k0, -, -, -, -, -, -, -, -, -, -, -, -, -, -, -, -, -, k18⟩ := HX4.out.cells
      obtain ⟨x, hx⟩ : ∃ x, Sq.Ldg.jrE c.jr = x := ⟨_, rfl⟩
      rw [hx] at HE13 ⊢
      clear hx
      by_cases hz : x = 0
      rotate_left
      ·have HR := Lib.hid (HE13.out.trans (fstL_nz hz))
       have hz1 : (x == 0) = false := by simp [hz]
       clear hz
       go_wp2_with fail
       go_quiet (fail)
       go_wp2_with fail
       go_ret
       exact ⟨kret_int HR.out.symm, kbelow_dN HB4.out _⟩
      subst hz
      have HE14 := Lib.hid (HE13.out.trans (fstL_z rfl))
      clear HE13
      rw [fstL_last] at HE14
      obtain ⟨nj, hnj⟩ : ∃ nj, s.nj = nj := ⟨_, rfl⟩
      have hnj' : nj ≤ 9223372036854775807 := by have := HC.out.mj; rw [hnj] at this; unfold maxLen at this; omega
      have HNJ : Hid (c.jr.length = nj) := Lib.hid (HC.out.nj.trans hnj)
      rw [hnj] at k18
      clear hnj
      by_cases h0 : 0 < nj
      ·obtain ⟨jq, rfl⟩ : ∃ jq, nj = jq + 1 := ⟨nj - 1, by omega⟩
       obtain ⟨b, off, hap, hcell⟩ := HC.out.j.open HNJ.out h0
       rw [hap] at k18
       obtain ⟨ax, cx, x0, -⟩ := hcell _ HB4.out jq (by omega)
       have HBH : Hid (behB c.jr c.today = decide (c.today < (Sq.Ldg.enth c.jr jq).day)) := by
        unfold Hid behB
        rw [HNJ.out, decide_eq_true (by omega), Bool.true_and]; rfl
       obtain ⟨dd, hdd⟩ : ∃ dd, (Sq.Ldg.enth c.jr jq).day = dd := ⟨_, rfl⟩
       obtain ⟨td, htd⟩ : ∃ td, c.today = td := ⟨_, rfl⟩
       rw [hdd] at x0
       rw [htd] at k0
       rw [hdd, htd] at HBH
       rw [htd] at HE14
       clear hcell hap hdd htd
       have hsub : ((jq + 1 : Nat) : Int) - 1 = (jq : Int) := by omega
       have hpos : (0 : Int) < ((jq + 1 : Nat) : Int) := by omega
       have hposB : decide ((0 : Int) < ((jq + 1 : Nat) : Int)) = true := decide_eq_true hpos
       have hql : (jq : Int) < ((jq + 1 : Nat) : Int) := by omega
       rw [show ((jq + 1 : Nat) : Int) = (jq : Int) + 1 by omega] at hsub hpos hposB hql
       cases hlate : decide (td < dd)
       ·have HR : Hid (coE F c = 0) := Lib.hid (HE14.out.trans (by rw [HBH.out, hlate]; rfl))
        go_wp2_with fail
        go_quiet (fail)
        go_wp2_with fail
        go_ret
        exact ⟨kret_int HR.out.symm, kbelow_dN HB4.out _⟩
       ·have HR : Hid (coE F c = 10) := Lib.hid (HE14.out.trans (by rw [HBH.out, hlate]; rfl))
        go_wp2_with fail
        go_quiet (fail)
        go_wp2_with fail
        go_ret
        exact ⟨kret_int HR.out.symm, kbelow_dN HB4.out _⟩
      ·obtain rfl : nj = 0 := by omega
       have HR : Hid (coE F c = 0) := Lib.hid (HE14.out.trans (by unfold behB; rw [HNJ.out]; rfl))
       go_wp2_with fail
       go_quiet (fail)
       go_wp2_with fail
       go_ret
       exact ⟨kret_int HR.out.symm, kbelow_dN HB4.out _⟩
end Go.Proofs.YtkalfdjmklakdaaGreatDoor
