/-
  Promise J3: the walk of a machine's step that lays a number down.
-/
import Derived.Test.YtmlpedgcpffpnaaGreatDoorKZ0
import Derived.Test.YtmlpedgcpffpnaaGreatDoorKZ1
import Derived.Test.YtmlpedgcpffpnaaGreatDoorKQA
import Derived.ArgAppend
import Derived.Deep.RegionWith
set_option linter.unusedSimpArgs false
set_option maxRecDepth 100000
set_option maxHeartbeats 8000000
namespace Go.Proofs.YtmlpedgcpffpnaaGreatDoor
open Go.RowKit
theorem info_int3 : (Tryz.prog.info? 3).map (fun i => (i.zero, i.size, i.bytes)) = some (some (.int .i64 0), 1, 8) := by kernel_rfl
theorem app_pile {w : World} {B mb pb vb most L : Nat} {a1 a2 a3 : Option Addr} {n1 c1 n2 c2 n3 c3 at_ u : Nat} {P V : Nat -> Int} (h : MAt w B mb pb vb most L a1 a2 a3 n1 c1 n2 c2 n3 c3 at_ u P V) (hu : u < most) (rb : Nat) (r : Int) (hr : w.cell? ⟨rb, 0, none⟩ = some (.int .i64 r)) :
 (Builtin.append_ #[35, 35] 35 #[.slice (some ⟨pb, 0, none⟩) u most, .slice (some ⟨rb, 0, none⟩) 1 1]).run Tryz.prog w = .ok (.slice (some ⟨pb, 0, none⟩) (u + 1) most) (w.setCell ⟨pb, u, none⟩ (.int .i64 r)) := by
 obtain ⟨i0, hi, hz0, hz1, hz2⟩ := info_parts info_int3;have e1 : 0 + u * i0.size = u := by rw [hz1]; omega
 have := run_append_room_cells (P := Tryz.prog) w 35 35 3 i0 Tryz.underlying35 hi pb 0 u most ⟨rb, 0, none⟩ 1 1 [.int .i64 r] (by rw [hz1]; rfl) (by
  intro j v hj
  match j, hj with
  | 0, hj => simp at hj; subst hj; simpa [Addr.add] using hr) (by intro v hv; simp at hv; subst hv; rfl) (by omega) (by
  intro j hj;have : j = 0 := by simp at hj; omega
  subst this;obtain ⟨⟨x, hx⟩, _⟩ := h.room u hu;rw [e1, Nat.add_zero, hx]; rfl) (by
  intro j hj;have : j = 0 := by simp at hj; omega
  subst this;rw [e1, Nat.add_zero];exact (h.room u hu).2)
 rw [e1] at this;exact this
theorem step_app_p {ops : Array Oper} {o : Oper} {a : Act} {K : Act -> World -> Prop} {Q : Exit -> Act -> World -> Prop} {E : Prop} (w w' : World) (hgd : o.guard = none) (s x : Operand)
 (ho : o.op = .call { callee := .builtin .append, args := #[s, x], argTypes := #[35, 35] }) (hty : o.type = 35) (v1 v2 v : Value) (hs : a.eval s = v1) (hx : a.eval x = v2)
 (hr : (Builtin.append_ #[35, 35] 35 #[v1, v2]).run Tryz.prog w = .ok v w') (h : K (a.put o.dst v) w') :
 if Region.wanted o (yielded ops a.tmps) = true then Oper.wp Tryz.prog o a w K Q else E := by
 have hw : Region.wanted o (yielded ops a.tmps) = true := by simp [Region.wanted, hgd]
 rw [if_pos hw];unfold Oper.wp execOp;simp only [ho, hty, resolve, invoke, builtin, Sem.run_bind, Sem.run_pure, Result.andThen_ok, List.map_toArray, List.map_cons, List.map_nil, hs, hx, hr];exact h
structure MS where
 at_ : Nat
 m : Nat
 P : Nat -> Int
 V : Nat -> Int
def MEnd (w : World) (B mb pb vb most L : Nat) (a1 a2 a3 : Option Addr) (n1 c1 n2 c2 n3 c3 at_ u : Nat) (P V : Nat -> Int) (o : Option MS) (e : Ending) (w' : World) : Prop :=
 Kp3 mb pb vb w w' /\ ((∃ s, o = some s /\ (e = .returned (.tuple #[])) /\ MAt w' B mb pb vb most L a1 a2 a3 n1 c1 n2 c2 n3 c3 s.at_ s.m s.P s.V) \/ (o = none /\ e = .panicked (gaveU 3) /\ MAt w' B mb pb vb most L a1 a2 a3 n1 c1 n2 c2 n3 c3 at_ u P V))
theorem mst_lay (W0 w : World) (mb pb vb most L : Nat) (a1 a2 a3 : Option Addr) (n1 c1 n2 c2 n3 c3 at_ m u q : Nat) (z A0 A1 : Int) (P V : Nat -> Int) (kn : Kn) (hM : MAt w W0.heap.size mb pb vb most L a1 a2 a3 n1 c1 n2 c2 n3 c3 at_ m P V) (hB : Below W0.heap.size W0 w) (hE : Eff W0) (hq1 : 1 <= q) (hq13 : q <= 13) (hum : u < most) (hat : at_ <= 10000)
 (hT : ∀ w1, MAt w1 W0.heap.size mb pb vb most L a1 a2 a3 n1 c1 n2 c2 n3 c3 at_ m P V -> Calls Tryz.prog 98 #[.pointer (some ⟨mb, 0, none⟩), .int .i64 (takesOf q)] w1 fun e w2 => e = .returned (.agg #[.int .i64 A0, .int .i64 A1]) /\ MAt w2 W0.heap.size mb pb vb most L a1 a2 a3 n1 c1 n2 c2 n3 c3 at_ u P V /\ Kp3 mb pb vb w1 w2)
 (hR : ∀ w1, MAt w1 W0.heap.size mb pb vb most L a1 a2 a3 n1 c1 n2 c2 n3 c3 at_ u P V -> Below W0.heap.size W0 w1 -> RkIs q kn V z A0 A1 mb w1) :
 Calls Tryz.prog 52 #[.pointer (some ⟨mb, 0, none⟩), .agg #[.int .i64 (q : Int), .int .i64 z]] w fun e w' => MEnd w W0.heap.size mb pb vb most L a1 a2 a3 n1 c1 n2 c2 n3 c3 at_ u P V ((rkO kn V q z A0 A1).map fun r => ⟨at_ + 1, u + 1, updF P u r, V⟩) e w' := by
 have HB1 := Hd (kbelow_box w (.cells #[.int .i64 (q : Int), .int .i64 z] 55));have HM1 := Hd (hM.below HB1.out);have HP31 := Hd (Cbx.made w [.int .i64 (q : Int), .int .i64 z] 55);have HLT : Hid (mb < w.heap.size /\ pb < w.heap.size /\ vb < w.heap.size) := ⟨hM.lt, hM.lp, hM.lv⟩;have HBS : Hid (W0.heap.size <= w.heap.size /\ W0.heap.size <= mb /\ W0.heap.size <= pb /\ W0.heap.size <= vb) := ⟨hB.size, hM.bm, hM.bp, hM.bv⟩;have HBW0 := Hd hB;have HT := Hd hT;have HRK := Hd hR;obtain ⟨e0, -⟩ := (hE.below (hB.trans (HB1.out.mono hB.size))) q (by omega) (by omega);have hq17 : (q : Int) < 17 := by omega
 have hq0 : (0 : Int) <= (q : Int) := by omega
 have b14 : ((q : Int) == 14) = false := by simp; omega
 have d14 : decide ((q : Int) = 14) = false := dEf (by omega);have n14 : decide (q = 14) = false := dEf (by omega);have b15 : ((q : Int) == 15) = false := by simp; omega
 have d15 : decide ((q : Int) = 15) = false := dEf (by omega);have n15 : decide (q = 15) = false := dEf (by omega);have b16 : ((q : Int) == 16) = false := by simp; omega
 have d16 : decide ((q : Int) = 16) = false := dEf (by omega);have n16 : decide (q = 16) = false := dEf (by omega);clear hM hB hE hT hR;generalize takesOf (q : Int) = tk at *
 go_enter Tryz.func52, Tryz.ntmps52
 go_wp2_with fail
 refine (HT.out _ HM1.out).mono ?_;rintro e w2 ⟨rfl, hM2, hK2⟩;have HP32 := Hd (hK2.cbx HP31.out (by have := HLT.out; omega) (by have := HLT.out; omega) (by have := HLT.out; omega));have HKP0 := Hd ((Kp3.of (mb := mb) (pb := pb) (vb := vb) HB1.out).trans hK2);have HM2 := Hd hM2;clear hM2 hK2 e0 HM1 HP31 HT;have c30 := (HP32.out.below (kbelow_box w2 (.cells #[.int .i64 A0, .int .i64 A1] 170)) HP32.out.lt).at 0 rfl;go_wp2_with fail
 have hbx := kbelow_box w2 (.cells #[.int .i64 A0, .int .i64 A1] 170);have HP4 := Hd (Cbx.made w2 [.int .i64 A0, .int .i64 A1] 170);have HP3 := Hd (HP32.out.below hbx HP32.out.lt);have HM := Hd (HM2.out.below hbx);have HKP := Hd (HKP0.out.trans (Kp3.of hbx));have HBW := Hd (HBW0.out.trans (HKP.out.below HBS.out.1 HBS.out.2.1 HBS.out.2.2.1 HBS.out.2.2.2));have HG4 : Hid (w.heap.size <= w2.heap.size) := HKP0.out.size;clear hbx HP32 HM2 HKP0 c30;generalize w2.alloc (.cells #[.int .i64 A0, .int .i64 A1] 170) = W3 at HP4 HP3 HM HKP HBW ⊢;generalize w2.heap.size = p4 at HP4 HG4 ⊢;generalize hp3 : w.heap.size = p3 at HP3 ⊢;have HG3 : Hid (w.heap.size <= p3) := Nat.le_of_eq hp3;clear hp3;refine wp_region_held_drew (S := fun w' => w'.cell? ⟨p3, 0, none⟩ = some (.int .i64 (q : Int)) /\ w'.cell? ⟨p3, 1, none⟩ = some (.int .i64 z) /\ w'.cell? ⟨p4, 0, none⟩ = some (.int .i64 A0) /\ w'.cell? ⟨p4, 1, none⟩ = some (.int .i64 A1)) (by kernel_rfl) ?_ (fun hHeld => ?_)
 ·exact ⟨HP3.out.at 0 rfl, HP3.out.at 1 rfl, HP4.out.at 0 rfl, HP4.out.at 1 rfl⟩
 have hbd := kbelow_dN (Below.refl W3.heap.size W3) 1;replace HP3 := Hd (HP3.out.below hbd HP3.out.lt);replace HP4 := Hd (HP4.out.below hbd HP4.out.lt);replace HM := Hd (HM.out.below hbd);replace HKP := Hd (HKP.out.trans (Kp3.of hbd));replace HBW := Hd (HBW.out.trans (hbd.mono HBW.out.size));clear hbd;generalize hU : W3.drewN 1 = U0 at HP3 HP4 HM HKP HBW;have hU' : W3.drew = U0 := hU;rw [hU'] at hHeld ⊢;clear hU hU';refine tkH 0 (.pointer (some ⟨mb, 0, none⟩)) rfl (fun w' hSw => ?_) ?_
 ·((try dsimp only at hSw); go_simp; try with_reducible rfl)
 try simp only [Act.put, layS]
 refine tkH 1 (.pointer (some ⟨mb, 0, none⟩)) rfl (fun w' hSw => ?_) ?_
 ·((try dsimp only at hSw); go_simp; try with_reducible rfl)
 try simp only [Act.put, layS]
 refine tkH 2 (.pointer (some ⟨mb, 0, none⟩)) rfl (fun w' hSw => ?_) ?_
 ·((try dsimp only at hSw); go_simp; try with_reducible rfl)
 try simp only [Act.put, layS]
 refine tkH 3 (.pointer (some ⟨mb, 4, none⟩)) rfl (fun w' hSw => ?_) ?_
 ·((try dsimp only at hSw); go_simp; try with_reducible rfl)
 try simp only [Act.put, layS]
 refine tkH 5 (.pointer (some ⟨mb, 0, none⟩)) rfl (fun w' hSw => ?_) ?_
 ·((try dsimp only at hSw); go_simp; try with_reducible rfl)
 try simp only [Act.put, layS]
 refine tkH 6 (.agg #[.int .i64 (q : Int), .int .i64 z]) rfl (fun w' hSw => ?_) ?_
 ·((try dsimp only at hSw); go_simp; try with_reducible rfl)
 try simp only [Act.put, layS]
 refine tkH 7 (.agg #[.int .i64 A0, .int .i64 A1]) rfl (fun w' hSw => ?_) ?_
 ·((try dsimp only at hSw); go_simp; try with_reducible rfl)
 try simp only [Act.put, layS]
 cases ho : rkO kn V q z A0 A1 with
 | none =>
   have HO : Hid ((rkO kn V q z A0 A1).map (fun r => (⟨at_ + 1, u + 1, updF P u r, V⟩ : MS)) = none) := by unfold Hid; rw [ho]; rfl
   unfold RkIs at HRK;rw [ho] at HRK;simp only [vEnd] at HRK;clear ho;refine rd2 4 8 rfl (fun K hK => ?_) rfl (fun K hK => ?_)
   ·skip
    have x4 := HM.out.bx.at 4 rfl;go_simp;clear x4;refine hK.out _ _ (by exact ⟨HP3.out.at 0 rfl, HP3.out.at 1 rfl, HP4.out.at 0 rfl, HP4.out.at 1 rfl⟩) (fun hHeld => ?_);clear hK K
    try simp only [Act.put, layS]
    refine rd1 8 rfl (fun K hK => ?_)
    ·skip
     go_simp;refine (HRK.out _ HM.out HBW.out).mono ?_;rintro e U1 ⟨rfl, hb⟩;have HM2 := Hd (HM.out.below hb);have HK2 := Hd (HKP.out.trans (Kp3.of hb));have HP32 := Hd (HP3.out.below hb HP3.out.lt);have HP42 := Hd (HP4.out.below hb HP4.out.lt);have HBW2 := Hd (HBW.out.trans (hb.mono HBW.out.size));clear hb HM HKP HP3 HP4 HBW;have HM := HM2;have HKP := HK2;have HP3 := HP32;have HP4 := HP42;have HBW := HBW2;clear HM2 HK2 HP32 HP42 HBW2
     try go_wp2_with fail
     exact ⟨rfl, HKP.out, .inr ⟨HO.out, rfl, HM.out⟩⟩
   ·skip
    go_simp;refine (HRK.out _ HM.out HBW.out).mono ?_;rintro e U1 ⟨rfl, hb⟩;have HM2 := Hd (HM.out.below hb);have HK2 := Hd (HKP.out.trans (Kp3.of hb));have HP32 := Hd (HP3.out.below hb HP3.out.lt);have HP42 := Hd (HP4.out.below hb HP4.out.lt);have HBW2 := Hd (HBW.out.trans (hb.mono HBW.out.size));clear hb HM HKP HP3 HP4 HBW;have HM := HM2;have HKP := HK2;have HP3 := HP32;have HP4 := HP42;have HBW := HBW2;clear HM2 HK2 HP32 HP42 HBW2
    try go_wp2_with fail
    exact ⟨rfl, HKP.out, .inr ⟨HO.out, rfl, HM.out⟩⟩
 | some r =>
   have HO : Hid ((rkO kn V q z A0 A1).map (fun r => (⟨at_ + 1, u + 1, updF P u r, V⟩ : MS)) = some ⟨at_ + 1, u + 1, updF P u r, V⟩) := by unfold Hid; rw [ho]; rfl
   unfold RkIs at HRK;rw [ho] at HRK;simp only [vEnd] at HRK;clear ho;refine rd2 4 8 rfl (fun K hK => ?_) rfl (fun K hK => ?_)
   ·skip
    have x4 := HM.out.bx.at 4 rfl;go_simp;clear x4;refine hK.out _ _ (by exact ⟨HP3.out.at 0 rfl, HP3.out.at 1 rfl, HP4.out.at 0 rfl, HP4.out.at 1 rfl⟩) (fun hHeld => ?_);clear hK K
    try simp only [Act.put, layS]
    refine rd1 8 rfl (fun K hK => ?_)
    ·skip
     go_simp;refine (HRK.out _ HM.out HBW.out).mono ?_;rintro e U1 ⟨rfl, hb⟩;have HM2 := Hd (HM.out.below hb);have HK2 := Hd (HKP.out.trans (Kp3.of hb));have HP32 := Hd (HP3.out.below hb HP3.out.lt);have HP42 := Hd (HP4.out.below hb HP4.out.lt);have HBW2 := Hd (HBW.out.trans (hb.mono HBW.out.size));clear hb HM HKP HP3 HP4 HBW;have HM := HM2;have HKP := HK2;have HP3 := HP32;have HP4 := HP42;have HBW := HBW2;clear HM2 HK2 HP32 HP42 HBW2
     try go_wp2_with fail
     refine hK.out _ _ (by exact ⟨HP3.out.at 0 rfl, HP3.out.at 1 rfl, HP4.out.at 0 rfl, HP4.out.at 1 rfl⟩) (fun hHeld => ?_);clear hK K
     try simp only [Act.put, layS]
     refine rd1 9 rfl (fun K hK => ?_)
     ·skip
      go_simp;have HROW := Hd (Cbx.made U1 [.int .i64 r] 3);have hb := kbelow_box U1 (.cells #[.int .i64 r] 3);have HM2 := Hd (HM.out.below hb);have HK2 := Hd (HKP.out.trans (Kp3.of hb));have HP32 := Hd (HP3.out.below hb HP3.out.lt);have HP42 := Hd (HP4.out.below hb HP4.out.lt);have HBW2 := Hd (HBW.out.trans (hb.mono HBW.out.size));clear hb HM HKP HP3 HP4 HBW;have HM := HM2;have HKP := HK2;have HP3 := HP32;have HP4 := HP42;have HBW := HBW2;clear HM2 HK2 HP32 HP42 HBW2;refine hK.out _ _ (by exact ⟨HP3.out.at 0 rfl, HP3.out.at 1 rfl, HP4.out.at 0 rfl, HP4.out.at 1 rfl⟩) (fun hHeld => ?_);clear hK K
      try simp only [Act.put, layS]
      generalize U1.alloc (.cells #[.int .i64 r] 3) = U2 at HROW HM HKP HP3 HP4 HBW hHeld ⊢;generalize U1.heap.size = rb at HROW ⊢;have hap := app_pile HM.out hum rb r (HROW.out.at 0 rfl);refine rd1 10 rfl (fun K hK => ?_);refine step_app_p _ _ rfl (.tmp 18) (.tmp 23) rfl rfl _ _ _ (by simp [Act.eval]) (by simp [Act.eval]) hap ?_;have HPU := Hd (HM.out.push r hum);have HKU := Hd (HKP.out.put pb u (.int .i64 r) (.inr (.inl rfl)));have HP3u : Hid (Cbx (U2.setCell ⟨pb, u, none⟩ (.int .i64 r)) p3 _) := HP3.out.to (Below.heap_setCell U2 ⟨pb, u, none⟩ _ p3 (show p3 ≠ pb by have := HLT.out; have := HG3.out; omega));have HP4u : Hid (Cbx (U2.setCell ⟨pb, u, none⟩ (.int .i64 r)) p4 _) := HP4.out.to (Below.heap_setCell U2 ⟨pb, u, none⟩ _ p4 (show p4 ≠ pb by have := HLT.out; have := HG4.out; omega));have HMBu : Hid (Cbx (U2.setCell ⟨pb, u, none⟩ (.int .i64 r)) mb _) := HM.out.bx.to (Below.heap_setCell U2 ⟨pb, u, none⟩ _ mb HM.out.mp);refine hK.out _ _ (by exact ⟨HP3u.out.at 0 rfl, HP3u.out.at 1 rfl, HP4u.out.at 0 rfl, HP4u.out.at 1 rfl⟩) (fun hHeld => ?_);clear hK K hap
      try simp only [Act.put, layS]
      generalize U2.setCell ⟨pb, u, none⟩ (.int .i64 r) = X0 at HPU HKU HP3u HP4u HMBu hHeld ⊢;refine tkH 11 (.pointer (some ⟨mb, 0, none⟩)) rfl (fun w' hSw => ?_) ?_
      ·((try dsimp only at hSw); go_simp; try with_reducible rfl)
      try simp only [Act.put, layS]
      refine tkH 12 (.pointer (some ⟨mb, 4, none⟩)) rfl (fun w' hSw => ?_) ?_
      ·((try dsimp only at hSw); go_simp; try with_reducible rfl)
      try simp only [Act.put, layS]
      have x4 := HMBu.out.at 4 rfl;have f4 := HMBu.out.fr 4 rfl;refine rd1 13 rfl (fun K hK => ?_);go_simp;clear x4 f4;have HKX := Hd (HKU.out.put mb 4 (.slice (some ⟨pb, 0, none⟩) (u + 1 : Nat) most) (.inl rfl));have HP3x : Hid (Cbx (X0.setCell ⟨mb, 4, none⟩ (.slice (some ⟨pb, 0, none⟩) (u + 1 : Nat) most)) p3 _) := HP3u.out.to (Below.heap_setCell X0 ⟨mb, 4, none⟩ _ p3 (show p3 ≠ mb by have := HLT.out; have := HG3.out; omega));have HP4x : Hid (Cbx (X0.setCell ⟨mb, 4, none⟩ (.slice (some ⟨pb, 0, none⟩) (u + 1 : Nat) most)) p4 _) := HP4u.out.to (Below.heap_setCell X0 ⟨mb, 4, none⟩ _ p4 (show p4 ≠ mb by have := HLT.out; have := HG4.out; omega));refine hK.out _ _ (by exact ⟨HP3x.out.at 0 rfl, HP3x.out.at 1 rfl, HP4x.out.at 0 rfl, HP4x.out.at 1 rfl⟩) (fun hHeld => ?_);clear hK K
      try simp only [Act.put, layS]
      refine wpAnyH_done (by kernel_rfl) ?_ _;generalize (X0.setCell ⟨mb, 4, none⟩ (.slice (some ⟨pb, 0, none⟩) (u + 1 : Nat) most)) = X1 at HPU HKX ⊢;have y3 := HPU.out.bx.at 3 rfl;have g3 := HPU.out.bx.fr 3 rfl;have hwa : IntKind.i64.wrap ((at_ : Int) + 1) = ((at_ + 1 : Nat) : Int) := by rw [IntWalk.i64_in _ (by omega)]; omega
      go_wp2_with fail
      refine bodyPost_end (v := .tuple #[]) (by simp [results, Tryz.results52, go_sem]) rfl ?_;exact ⟨HKX.out.put mb 3 _ (.inl rfl), .inl ⟨_, HO.out, rfl, HPU.out.setAt (at_ + 1)⟩⟩
   ·skip
    go_simp;refine (HRK.out _ HM.out HBW.out).mono ?_;rintro e U1 ⟨rfl, hb⟩;have HM2 := Hd (HM.out.below hb);have HK2 := Hd (HKP.out.trans (Kp3.of hb));have HP32 := Hd (HP3.out.below hb HP3.out.lt);have HP42 := Hd (HP4.out.below hb HP4.out.lt);have HBW2 := Hd (HBW.out.trans (hb.mono HBW.out.size));clear hb HM HKP HP3 HP4 HBW;have HM := HM2;have HKP := HK2;have HP3 := HP32;have HP4 := HP42;have HBW := HBW2;clear HM2 HK2 HP32 HP42 HBW2
    try go_wp2_with fail
    refine hK.out _ _ (by exact ⟨HP3.out.at 0 rfl, HP3.out.at 1 rfl, HP4.out.at 0 rfl, HP4.out.at 1 rfl⟩) (fun hHeld => ?_);clear hK K
    try simp only [Act.put, layS]
    refine rd2 4 9 rfl (fun K hK => ?_) rfl (fun K hK => ?_)
    ·skip
     have x4 := HM.out.bx.at 4 rfl;go_simp;clear x4;refine hK.out _ _ (by exact ⟨HP3.out.at 0 rfl, HP3.out.at 1 rfl, HP4.out.at 0 rfl, HP4.out.at 1 rfl⟩) (fun hHeld => ?_);clear hK K
     try simp only [Act.put, layS]
     refine rd1 9 rfl (fun K hK => ?_)
     ·skip
      go_simp;have HROW := Hd (Cbx.made U1 [.int .i64 r] 3);have hb := kbelow_box U1 (.cells #[.int .i64 r] 3);have HM2 := Hd (HM.out.below hb);have HK2 := Hd (HKP.out.trans (Kp3.of hb));have HP32 := Hd (HP3.out.below hb HP3.out.lt);have HP42 := Hd (HP4.out.below hb HP4.out.lt);have HBW2 := Hd (HBW.out.trans (hb.mono HBW.out.size));clear hb HM HKP HP3 HP4 HBW;have HM := HM2;have HKP := HK2;have HP3 := HP32;have HP4 := HP42;have HBW := HBW2;clear HM2 HK2 HP32 HP42 HBW2;refine hK.out _ _ (by exact ⟨HP3.out.at 0 rfl, HP3.out.at 1 rfl, HP4.out.at 0 rfl, HP4.out.at 1 rfl⟩) (fun hHeld => ?_);clear hK K
      try simp only [Act.put, layS]
      generalize U1.alloc (.cells #[.int .i64 r] 3) = U2 at HROW HM HKP HP3 HP4 HBW hHeld ⊢;generalize U1.heap.size = rb at HROW ⊢;have hap := app_pile HM.out hum rb r (HROW.out.at 0 rfl);refine rd1 10 rfl (fun K hK => ?_);refine step_app_p _ _ rfl (.tmp 18) (.tmp 23) rfl rfl _ _ _ (by simp [Act.eval]) (by simp [Act.eval]) hap ?_;have HPU := Hd (HM.out.push r hum);have HKU := Hd (HKP.out.put pb u (.int .i64 r) (.inr (.inl rfl)));have HP3u : Hid (Cbx (U2.setCell ⟨pb, u, none⟩ (.int .i64 r)) p3 _) := HP3.out.to (Below.heap_setCell U2 ⟨pb, u, none⟩ _ p3 (show p3 ≠ pb by have := HLT.out; have := HG3.out; omega));have HP4u : Hid (Cbx (U2.setCell ⟨pb, u, none⟩ (.int .i64 r)) p4 _) := HP4.out.to (Below.heap_setCell U2 ⟨pb, u, none⟩ _ p4 (show p4 ≠ pb by have := HLT.out; have := HG4.out; omega));have HMBu : Hid (Cbx (U2.setCell ⟨pb, u, none⟩ (.int .i64 r)) mb _) := HM.out.bx.to (Below.heap_setCell U2 ⟨pb, u, none⟩ _ mb HM.out.mp);refine hK.out _ _ (by exact ⟨HP3u.out.at 0 rfl, HP3u.out.at 1 rfl, HP4u.out.at 0 rfl, HP4u.out.at 1 rfl⟩) (fun hHeld => ?_);clear hK K hap
      try simp only [Act.put, layS]
      generalize U2.setCell ⟨pb, u, none⟩ (.int .i64 r) = X0 at HPU HKU HP3u HP4u HMBu hHeld ⊢;refine tkH 11 (.pointer (some ⟨mb, 0, none⟩)) rfl (fun w' hSw => ?_) ?_
      ·((try dsimp only at hSw); go_simp; try with_reducible rfl)
      try simp only [Act.put, layS]
      refine tkH 12 (.pointer (some ⟨mb, 4, none⟩)) rfl (fun w' hSw => ?_) ?_
      ·((try dsimp only at hSw); go_simp; try with_reducible rfl)
      try simp only [Act.put, layS]
      have x4 := HMBu.out.at 4 rfl;have f4 := HMBu.out.fr 4 rfl;refine rd1 13 rfl (fun K hK => ?_);go_simp;clear x4 f4;have HKX := Hd (HKU.out.put mb 4 (.slice (some ⟨pb, 0, none⟩) (u + 1 : Nat) most) (.inl rfl));have HP3x : Hid (Cbx (X0.setCell ⟨mb, 4, none⟩ (.slice (some ⟨pb, 0, none⟩) (u + 1 : Nat) most)) p3 _) := HP3u.out.to (Below.heap_setCell X0 ⟨mb, 4, none⟩ _ p3 (show p3 ≠ mb by have := HLT.out; have := HG3.out; omega));have HP4x : Hid (Cbx (X0.setCell ⟨mb, 4, none⟩ (.slice (some ⟨pb, 0, none⟩) (u + 1 : Nat) most)) p4 _) := HP4u.out.to (Below.heap_setCell X0 ⟨mb, 4, none⟩ _ p4 (show p4 ≠ mb by have := HLT.out; have := HG4.out; omega));refine hK.out _ _ (by exact ⟨HP3x.out.at 0 rfl, HP3x.out.at 1 rfl, HP4x.out.at 0 rfl, HP4x.out.at 1 rfl⟩) (fun hHeld => ?_);clear hK K
      try simp only [Act.put, layS]
      refine wpAnyH_done (by kernel_rfl) ?_ _;generalize (X0.setCell ⟨mb, 4, none⟩ (.slice (some ⟨pb, 0, none⟩) (u + 1 : Nat) most)) = X1 at HPU HKX ⊢;have y3 := HPU.out.bx.at 3 rfl;have g3 := HPU.out.bx.fr 3 rfl;have hwa : IntKind.i64.wrap ((at_ : Int) + 1) = ((at_ + 1 : Nat) : Int) := by rw [IntWalk.i64_in _ (by omega)]; omega
      go_wp2_with fail
      refine bodyPost_end (v := .tuple #[]) (by simp [results, Tryz.results52, go_sem]) rfl ?_;exact ⟨HKX.out.put mb 3 _ (.inl rfl), .inl ⟨_, HO.out, rfl, HPU.out.setAt (at_ + 1)⟩⟩
    ·skip
     go_simp;have HROW := Hd (Cbx.made U1 [.int .i64 r] 3);have hb := kbelow_box U1 (.cells #[.int .i64 r] 3);have HM2 := Hd (HM.out.below hb);have HK2 := Hd (HKP.out.trans (Kp3.of hb));have HP32 := Hd (HP3.out.below hb HP3.out.lt);have HP42 := Hd (HP4.out.below hb HP4.out.lt);have HBW2 := Hd (HBW.out.trans (hb.mono HBW.out.size));clear hb HM HKP HP3 HP4 HBW;have HM := HM2;have HKP := HK2;have HP3 := HP32;have HP4 := HP42;have HBW := HBW2;clear HM2 HK2 HP32 HP42 HBW2;refine hK.out _ _ (by exact ⟨HP3.out.at 0 rfl, HP3.out.at 1 rfl, HP4.out.at 0 rfl, HP4.out.at 1 rfl⟩) (fun hHeld => ?_);clear hK K
     try simp only [Act.put, layS]
     generalize U1.alloc (.cells #[.int .i64 r] 3) = U2 at HROW HM HKP HP3 HP4 HBW hHeld ⊢;generalize U1.heap.size = rb at HROW ⊢;refine rd1 4 rfl (fun K hK => ?_)
     ·skip
      have x4 := HM.out.bx.at 4 rfl;go_simp;clear x4;refine hK.out _ _ (by exact ⟨HP3.out.at 0 rfl, HP3.out.at 1 rfl, HP4.out.at 0 rfl, HP4.out.at 1 rfl⟩) (fun hHeld => ?_);clear hK K
      try simp only [Act.put, layS]
      have hap := app_pile HM.out hum rb r (HROW.out.at 0 rfl);refine rd1 10 rfl (fun K hK => ?_);refine step_app_p _ _ rfl (.tmp 18) (.tmp 23) rfl rfl _ _ _ (by simp [Act.eval]) (by simp [Act.eval]) hap ?_;have HPU := Hd (HM.out.push r hum);have HKU := Hd (HKP.out.put pb u (.int .i64 r) (.inr (.inl rfl)));have HP3u : Hid (Cbx (U2.setCell ⟨pb, u, none⟩ (.int .i64 r)) p3 _) := HP3.out.to (Below.heap_setCell U2 ⟨pb, u, none⟩ _ p3 (show p3 ≠ pb by have := HLT.out; have := HG3.out; omega));have HP4u : Hid (Cbx (U2.setCell ⟨pb, u, none⟩ (.int .i64 r)) p4 _) := HP4.out.to (Below.heap_setCell U2 ⟨pb, u, none⟩ _ p4 (show p4 ≠ pb by have := HLT.out; have := HG4.out; omega));have HMBu : Hid (Cbx (U2.setCell ⟨pb, u, none⟩ (.int .i64 r)) mb _) := HM.out.bx.to (Below.heap_setCell U2 ⟨pb, u, none⟩ _ mb HM.out.mp);refine hK.out _ _ (by exact ⟨HP3u.out.at 0 rfl, HP3u.out.at 1 rfl, HP4u.out.at 0 rfl, HP4u.out.at 1 rfl⟩) (fun hHeld => ?_);clear hK K hap
      try simp only [Act.put, layS]
      generalize U2.setCell ⟨pb, u, none⟩ (.int .i64 r) = X0 at HPU HKU HP3u HP4u HMBu hHeld ⊢;refine tkH 11 (.pointer (some ⟨mb, 0, none⟩)) rfl (fun w' hSw => ?_) ?_
      ·((try dsimp only at hSw); go_simp; try with_reducible rfl)
      try simp only [Act.put, layS]
      refine tkH 12 (.pointer (some ⟨mb, 4, none⟩)) rfl (fun w' hSw => ?_) ?_
      ·((try dsimp only at hSw); go_simp; try with_reducible rfl)
      try simp only [Act.put, layS]
      have x4 := HMBu.out.at 4 rfl;have f4 := HMBu.out.fr 4 rfl;refine rd1 13 rfl (fun K hK => ?_);go_simp;clear x4 f4;have HKX := Hd (HKU.out.put mb 4 (.slice (some ⟨pb, 0, none⟩) (u + 1 : Nat) most) (.inl rfl));have HP3x : Hid (Cbx (X0.setCell ⟨mb, 4, none⟩ (.slice (some ⟨pb, 0, none⟩) (u + 1 : Nat) most)) p3 _) := HP3u.out.to (Below.heap_setCell X0 ⟨mb, 4, none⟩ _ p3 (show p3 ≠ mb by have := HLT.out; have := HG3.out; omega));have HP4x : Hid (Cbx (X0.setCell ⟨mb, 4, none⟩ (.slice (some ⟨pb, 0, none⟩) (u + 1 : Nat) most)) p4 _) := HP4u.out.to (Below.heap_setCell X0 ⟨mb, 4, none⟩ _ p4 (show p4 ≠ mb by have := HLT.out; have := HG4.out; omega));refine hK.out _ _ (by exact ⟨HP3x.out.at 0 rfl, HP3x.out.at 1 rfl, HP4x.out.at 0 rfl, HP4x.out.at 1 rfl⟩) (fun hHeld => ?_);clear hK K
      try simp only [Act.put, layS]
      refine wpAnyH_done (by kernel_rfl) ?_ _;generalize (X0.setCell ⟨mb, 4, none⟩ (.slice (some ⟨pb, 0, none⟩) (u + 1 : Nat) most)) = X1 at HPU HKX ⊢;have y3 := HPU.out.bx.at 3 rfl;have g3 := HPU.out.bx.fr 3 rfl;have hwa : IntKind.i64.wrap ((at_ : Int) + 1) = ((at_ + 1 : Nat) : Int) := by rw [IntWalk.i64_in _ (by omega)]; omega
      go_wp2_with fail
      refine bodyPost_end (v := .tuple #[]) (by simp [results, Tryz.results52, go_sem]) rfl ?_;exact ⟨HKX.out.put mb 3 _ (.inl rfl), .inl ⟨_, HO.out, rfl, HPU.out.setAt (at_ + 1)⟩⟩
theorem mst_14 (W0 w : World) (mb pb vb most L : Nat) (a1 a2 a3 : Option Addr) (n1 c1 n2 c2 n3 c3 at_ m : Nat) (z : Int) (P V : Nat -> Int) (hM : MAt w W0.heap.size mb pb vb most L a1 a2 a3 n1 c1 n2 c2 n3 c3 at_ m P V) (hB : Below W0.heap.size W0 w) (hE : Eff W0) (hz : I64 z) (hmost : most <= 20000) (hat : at_ <= 10000) (hfu : 0 <= furI 14 z /\ furI 14 z <= 10000) :
 Calls Tryz.prog 52 #[.pointer (some ⟨mb, 0, none⟩), .agg #[.int .i64 14, .int .i64 z]] w fun e w' => MEnd w W0.heap.size mb pb vb most L a1 a2 a3 n1 c1 n2 c2 n3 c3 at_ m P V (some ⟨at_ + 1 + (furI 14 z).toNat, m, P, V⟩) e w' := by
 have HT : Hid (∀ w1, MAt w1 W0.heap.size mb pb vb most L a1 a2 a3 n1 c1 n2 c2 n3 c3 at_ m P V -> Calls Tryz.prog 98 #[.pointer (some ⟨mb, 0, none⟩), .int .i64 0] w1 fun e w2 => e = .returned (.agg #[.int .i64 0, .int .i64 0]) /\ MAt w2 W0.heap.size mb pb vb most L a1 a2 a3 n1 c1 n2 c2 n3 c3 at_ m P V /\ Kp3 mb pb vb w1 w2) := fun w1 h1 => take_0 w1 _ mb pb vb most L a1 a2 a3 n1 c1 n2 c2 n3 c3 at_ m P V h1 hmost
 have HB1 := Hd (kbelow_box w (.cells #[.int .i64 14, .int .i64 z] 55));have HM1 := Hd (hM.below HB1.out);have HP31 := Hd (Cbx.made w [.int .i64 14, .int .i64 z] 55);have HLT : Hid (mb < w.heap.size /\ pb < w.heap.size /\ vb < w.heap.size) := ⟨hM.lt, hM.lp, hM.lv⟩;obtain ⟨e0, -⟩ := (hE.below (hB.trans (HB1.out.mono hB.size))) 14 (by omega) (by omega);clear hM hB hE
 go_enter Tryz.func52, Tryz.ntmps52
 go_wp2_with fail
 refine (HT.out _ HM1.out).mono ?_;rintro e w2 ⟨rfl, hM2, hK2⟩;have HP32 := Hd (hK2.cbx HP31.out (by have := HLT.out; omega) (by have := HLT.out; omega) (by have := HLT.out; omega));have HKP0 := Hd ((Kp3.of (mb := mb) (pb := pb) (vb := vb) HB1.out).trans hK2);have HM2 := Hd hM2;clear hM2 hK2 e0 HM1 HP31 HT;have c30 := (HP32.out.below (kbelow_box w2 (.cells #[.int .i64 0, .int .i64 0] 170)) HP32.out.lt).at 0 rfl;go_wp2_with fail
 have hbx := kbelow_box w2 (.cells #[.int .i64 0, .int .i64 0] 170);have HP4 := Hd (Cbx.made w2 [.int .i64 0, .int .i64 0] 170);have HP3 := Hd (HP32.out.below hbx HP32.out.lt);have HM := Hd (HM2.out.below hbx);have HKP := Hd (HKP0.out.trans (Kp3.of hbx));have HG4 : Hid (w.heap.size <= w2.heap.size) := HKP0.out.size;clear hbx HP32 HM2 HKP0 c30;generalize w2.alloc (.cells #[.int .i64 0, .int .i64 0] 170) = W3 at HP4 HP3 HM HKP ⊢;generalize w2.heap.size = p4 at HP4 HG4 ⊢;generalize hp3 : w.heap.size = p3 at HP3 ⊢;have HG3 : Hid (w.heap.size <= p3) := Nat.le_of_eq hp3;clear hp3;have HBd : Hid (Below W3.heap.size W3 W3.drew) := Hd (kbelow_dN (Below.refl _ _) 1);have HMd := Hd (HM.out.below HBd.out);have HP3d := Hd (HP3.out.below HBd.out HP3.out.lt);have x3 := HMd.out.bx.at 3 rfl;have f3 := HMd.out.bx.fr 3 rfl;have c30 := HP3d.out.at 0 rfl;have c31 := HP3d.out.at 1 rfl;have HFU := Hd (fun w' => further_any 14 z w' hz);have hwf : IntKind.i64.wrap ((at_ : Int) + furI 14 z) = ((at_ + (furI 14 z).toNat : Nat) : Int) := by rw [IntWalk.i64_in _ (by omega)]; omega
 have hwg : IntKind.i64.wrap (((at_ + (furI 14 z).toNat : Nat) : Int) + 1) = ((at_ + 1 + (furI 14 z).toNat : Nat) : Int) := by rw [IntWalk.i64_in _ (by omega)]; omega
 have HFT := Hd hfu;clear hfu;generalize hfe : furI 14 z = fu at hwf hwg HFU HFT;have HFE := Hd hfe;clear hfe;generalize hAF : at_ + fu.toNat = af at hwf hwg;have HAF := Hd hAF;clear hAF;generalize hAG : at_ + 1 + fu.toNat = ag at hwg;have HAG := Hd hAG;clear hAG
 go_region_with (go_at_call 97; refine (HFU.out _).mono ?_; rintro e w5 ⟨rfl, hb⟩; have HB5 := Hd hb; have x3' := (HMd.out.below HB5.out).bx.at 3 rfl; have f3' := (HMd.out.below HB5.out).bx.fr 3 rfl; clear hb)
 all_goals
  have HMJ := Hd ((HMd.out.below HB5.out).setAt af);have HKJ := Hd (((HKP.out.trans (Kp3.of HBd.out)).trans (Kp3.of HB5.out)).put mb 3 (.int .i64 (af : Int)) (.inl rfl));clear x3' f3';generalize w5.setCell ⟨mb, 3, none⟩ (.int .i64 (af : Int)) = X at HMJ HKJ ⊢;have y3 := HMJ.out.bx.at 3 rfl;have g3 := HMJ.out.bx.fr 3 rfl;go_wp2_with fail
  refine bodyPost_end (v := .tuple #[]) (by simp [results, Tryz.results52, go_sem]) rfl ?_;exact ⟨HKJ.out.put mb 3 _ (.inl rfl), .inl ⟨⟨ag, m, P, V⟩, by rw [HFE.out, HAG.out], rfl, HMJ.out.setAt ag⟩⟩
theorem holds_b (t a b : Int) (w : World) : Calls Tryz.prog 99 #[.int .i64 t, .int .i64 a, .int .i64 b] w fun e w' => e = .returned (.bool (holdB t a b)) /\ Below w.heap.size w w' := (rHolds_any t a b w).mono fun _ _ ⟨h1, h2⟩ => ⟨h1, h2 ▸ Below.refl _ _⟩
theorem mst_16 (W0 w : World) (mb pb vb most L : Nat) (a1 a2 a3 : Option Addr) (n1 c1 n2 c2 n3 c3 at_ m z : Nat) (P V : Nat -> Int) (hM : MAt w W0.heap.size mb pb vb most L a1 a2 a3 n1 c1 n2 c2 n3 c3 at_ m P V) (hB : Below W0.heap.size W0 w) (hE : Eff W0) (hmost : most <= 20000) (hat : at_ <= 10000) (hm : 1 <= m) (hz : z < L) :
 Calls Tryz.prog 52 #[.pointer (some ⟨mb, 0, none⟩), .agg #[.int .i64 16, .int .i64 (z : Int)]] w fun e w' => MEnd w W0.heap.size mb pb vb most L a1 a2 a3 n1 c1 n2 c2 n3 c3 at_ (m - 1) P V (some ⟨at_ + 1, m - 1, P, updF V z (P (m - 1))⟩) e w' := by
 have HT : Hid (∀ w1, MAt w1 W0.heap.size mb pb vb most L a1 a2 a3 n1 c1 n2 c2 n3 c3 at_ m P V -> Calls Tryz.prog 98 #[.pointer (some ⟨mb, 0, none⟩), .int .i64 1] w1 fun e w2 => e = .returned (.agg #[.int .i64 (P (m - 1)), .int .i64 0]) /\ MAt w2 W0.heap.size mb pb vb most L a1 a2 a3 n1 c1 n2 c2 n3 c3 at_ (m - 1) P V /\ Kp3 mb pb vb w1 w2) := fun w1 h1 => take_1 w1 _ mb pb vb most L a1 a2 a3 n1 c1 n2 c2 n3 c3 at_ m P V h1 hm hmost
 clear hm;generalize m - 1 = u at HT ⊢;have HB1 := Hd (kbelow_box w (.cells #[.int .i64 16, .int .i64 (z : Int)] 55));have HM1 := Hd (hM.below HB1.out);have HP31 := Hd (Cbx.made w [.int .i64 16, .int .i64 (z : Int)] 55);have HLT : Hid (mb < w.heap.size /\ pb < w.heap.size /\ vb < w.heap.size) := ⟨hM.lt, hM.lp, hM.lv⟩;obtain ⟨e0, -⟩ := (hE.below (hB.trans (HB1.out.mono hB.size))) 16 (by omega) (by omega);clear hM hB hE
 go_enter Tryz.func52, Tryz.ntmps52
 go_wp2_with fail
 refine (HT.out _ HM1.out).mono ?_;rintro e w2 ⟨rfl, hM2, hK2⟩;have HP32 := Hd (hK2.cbx HP31.out (by have := HLT.out; omega) (by have := HLT.out; omega) (by have := HLT.out; omega));have HKP0 := Hd ((Kp3.of (mb := mb) (pb := pb) (vb := vb) HB1.out).trans hK2);have HM2 := Hd hM2;clear hM2 hK2 e0 HM1 HP31 HT;have c30 := (HP32.out.below (kbelow_box w2 (.cells #[.int .i64 (P u), .int .i64 0] 170)) HP32.out.lt).at 0 rfl;go_wp2_with fail
 have hbx := kbelow_box w2 (.cells #[.int .i64 (P u), .int .i64 0] 170);have HP4 := Hd (Cbx.made w2 [.int .i64 (P u), .int .i64 0] 170);have HP3 := Hd (HP32.out.below hbx HP32.out.lt);have HM := Hd (HM2.out.below hbx);have HKP := Hd (HKP0.out.trans (Kp3.of hbx));have HG4 : Hid (w.heap.size <= w2.heap.size) := HKP0.out.size;clear hbx HP32 HM2 HKP0 c30;generalize w2.alloc (.cells #[.int .i64 (P u), .int .i64 0] 170) = W3 at HP4 HP3 HM HKP ⊢;generalize w2.heap.size = p4 at HP4 HG4 ⊢;generalize hp3 : w.heap.size = p3 at HP3 ⊢;have HG3 : Hid (w.heap.size <= p3) := Nat.le_of_eq hp3;clear hp3;have HBd : Hid (Below W3.heap.size W3 W3.drew) := Hd (kbelow_dN (Below.refl _ _) 1);have HMd := Hd (HM.out.below HBd.out);have x5 := HMd.out.bx.at 5 rfl;have c31 := (HP3.out.below HBd.out HP3.out.lt).at 1 rfl;have c40 := (HP4.out.below HBd.out HP4.out.lt).at 0 rfl;have v0 := (HMd.out.vals z hz).1;have f0 := (HMd.out.vals z hz).2;have hz' : (z : Int) < (L : Int) := by omega
 go_region
 all_goals
  have HMJ := Hd ((HM.out.keep z (P u) hz).below (kbelow_dN (Below.refl _ _) 1));have HKJ := Hd ((HKP.out.put vb z (.int .i64 (P u)) (.inr (.inr (.inl rfl)))).trans (Kp3.of (kbelow_dN (Below.refl _ _) 1)));have hdr : (W3.setCell ⟨vb, z, none⟩ (.int .i64 (P u))).drewN 1 = (W3.setCell ⟨vb, z, none⟩ (.int .i64 (P u))).drew := rfl;rw [hdr] at HMJ HKJ;clear x5 c31 c40 v0 f0 hdr;generalize (W3.setCell ⟨vb, z, none⟩ (.int .i64 (P u))).drew = X at HMJ HKJ ⊢;have y3 := HMJ.out.bx.at 3 rfl;have g3 := HMJ.out.bx.fr 3 rfl;have hwa : IntKind.i64.wrap ((at_ : Int) + 1) = ((at_ + 1 : Nat) : Int) := by rw [IntWalk.i64_in _ (by omega)]; omega
  go_wp2_with fail
  refine bodyPost_end (v := .tuple #[]) (by simp [results, Tryz.results52, go_sem]) rfl ?_;exact ⟨HKJ.out.put mb 3 _ (.inl rfl), .inl ⟨⟨at_ + 1, u, P, updF V z (P u)⟩, rfl, rfl, HMJ.out.setAt (at_ + 1)⟩⟩
theorem mst_15 (W0 w : World) (mb pb vb most L : Nat) (a1 a2 a3 : Option Addr) (n1 c1 n2 c2 n3 c3 at_ m : Nat) (z : Int) (P V : Nat -> Int) (hM : MAt w W0.heap.size mb pb vb most L a1 a2 a3 n1 c1 n2 c2 n3 c3 at_ m P V) (hB : Below W0.heap.size W0 w) (hE : Eff W0) (hz : I64 z) (hmost : most <= 20000) (hat : at_ <= 10000) (hm : 2 <= m) (hfu : 0 <= furI 15 z /\ furI 15 z <= 10000) :
 Calls Tryz.prog 52 #[.pointer (some ⟨mb, 0, none⟩), .agg #[.int .i64 15, .int .i64 z]] w fun e w' => MEnd w W0.heap.size mb pb vb most L a1 a2 a3 n1 c1 n2 c2 n3 c3 at_ (m - 2) P V (some ⟨if holdB (z.tmod 4) (P (m - 2)) (P (m - 2 + 1)) = true then at_ + 1 else at_ + 1 + (furI 15 z).toNat, m - 2, P, V⟩) e w' := by
 have HT : Hid (∀ w1, MAt w1 W0.heap.size mb pb vb most L a1 a2 a3 n1 c1 n2 c2 n3 c3 at_ m P V -> Calls Tryz.prog 98 #[.pointer (some ⟨mb, 0, none⟩), .int .i64 2] w1 fun e w2 => e = .returned (.agg #[.int .i64 (P (m - 2)), .int .i64 (P (m - 2 + 1))]) /\ MAt w2 W0.heap.size mb pb vb most L a1 a2 a3 n1 c1 n2 c2 n3 c3 at_ (m - 2) P V /\ Kp3 mb pb vb w1 w2) := fun w1 h1 => take_2 w1 _ mb pb vb most L a1 a2 a3 n1 c1 n2 c2 n3 c3 at_ m P V h1 hm hmost
 clear hm;generalize m - 2 = u at HT ⊢;have HTO := Hd (fun w' => testOf_any 15 z w');have HHO := Hd (fun w' => holds_b (z.tmod 4) (P u) (P (u + 1)) w');generalize hHB : holdB (z.tmod 4) (P u) (P (u + 1)) = hb at HHO;have HHB := Hd hHB;clear hHB;generalize z.tmod 4 = zt at HTO HHO;have HB1 := Hd (kbelow_box w (.cells #[.int .i64 15, .int .i64 z] 55));have HM1 := Hd (hM.below HB1.out);have HP31 := Hd (Cbx.made w [.int .i64 15, .int .i64 z] 55);have HLT : Hid (mb < w.heap.size /\ pb < w.heap.size /\ vb < w.heap.size) := ⟨hM.lt, hM.lp, hM.lv⟩;obtain ⟨e0, -⟩ := (hE.below (hB.trans (HB1.out.mono hB.size))) 15 (by omega) (by omega);clear hM hB hE
 go_enter Tryz.func52, Tryz.ntmps52
 go_wp2_with fail
 refine (HT.out _ HM1.out).mono ?_;rintro e w2 ⟨rfl, hM2, hK2⟩;have HP32 := Hd (hK2.cbx HP31.out (by have := HLT.out; omega) (by have := HLT.out; omega) (by have := HLT.out; omega));have HKP0 := Hd ((Kp3.of (mb := mb) (pb := pb) (vb := vb) HB1.out).trans hK2);have HM2 := Hd hM2;clear hM2 hK2 e0 HM1 HP31 HT;have c30 := (HP32.out.below (kbelow_box w2 (.cells #[.int .i64 (P u), .int .i64 (P (u + 1))] 170)) HP32.out.lt).at 0 rfl;go_wp2_with fail
 have hbx := kbelow_box w2 (.cells #[.int .i64 (P u), .int .i64 (P (u + 1))] 170);have HP4 := Hd (Cbx.made w2 [.int .i64 (P u), .int .i64 (P (u + 1))] 170);have HP3 := Hd (HP32.out.below hbx HP32.out.lt);have HM := Hd (HM2.out.below hbx);have HKP := Hd (HKP0.out.trans (Kp3.of hbx));have HG4 : Hid (w.heap.size <= w2.heap.size) := HKP0.out.size;clear hbx HP32 HM2 HKP0 c30;generalize w2.alloc (.cells #[.int .i64 (P u), .int .i64 (P (u + 1))] 170) = W3 at HP4 HP3 HM HKP ⊢;generalize w2.heap.size = p4 at HP4 HG4 ⊢;generalize hp3 : w.heap.size = p3 at HP3 ⊢;have HG3 : Hid (w.heap.size <= p3) := Nat.le_of_eq hp3;clear hp3;have r0 := cell_regrown (HP3.out.at 0 rfl);have r1 := cell_regrown (HP3.out.at 1 rfl);have s0 := cell_regrown (HP4.out.at 0 rfl);have s1 := cell_regrown (HP4.out.at 1 rfl);refine wp_region_quiet_below (by kernel_rfl) (by kernel_rfl) ?_
 repeat (go_big_quiet_step (first | exact Calls.regrown_of (HTO.out _) | exact Calls.regrown_of (HHO.out _)))
 refine wpQuiet_nil ?_;intro _ hw';obtain ⟨⟨dq, osq⟩, hw''⟩ := hw';subst hw'';have hbq := below_regrown W3 dq osq;replace HM := Hd (HM.out.below hbq);replace HP3 := Hd (HP3.out.below hbq HP3.out.lt);replace HKP := Hd (HKP.out.trans (Kp3.of hbq));clear hbq r0 r1 s0 s1 HP4 HTO HHO
 dsimp only
 obtain ⟨W4, hW4⟩ : ∃ W4, W4 = Sort.grow (redrawn W3 dq) osq := ⟨_, rfl⟩;rw [<- hW4] at HM HP3 HKP ⊢;clear hW4
 cases hb
 ·go_wp2_with fail
  have HBd : Hid (Below W4.heap.size W4 W4.drew) := Hd (kbelow_dN (Below.refl _ _) 1);have HMd := Hd (HM.out.below HBd.out);have HP3d := Hd (HP3.out.below HBd.out HP3.out.lt);have x3 := HMd.out.bx.at 3 rfl;have f3 := HMd.out.bx.fr 3 rfl;have c30 := HP3d.out.at 0 rfl;have c31 := HP3d.out.at 1 rfl;have HFU := Hd (fun w' => further_any 15 z w' hz);have hwf : IntKind.i64.wrap ((at_ : Int) + furI 15 z) = ((at_ + (furI 15 z).toNat : Nat) : Int) := by rw [IntWalk.i64_in _ (by omega)]; omega
  have hwg : IntKind.i64.wrap (((at_ + (furI 15 z).toNat : Nat) : Int) + 1) = ((at_ + 1 + (furI 15 z).toNat : Nat) : Int) := by rw [IntWalk.i64_in _ (by omega)]; omega
  have HFT := Hd hfu;clear hfu;generalize hfe : furI 15 z = fu at hwf hwg HFU HFT;have HFE := Hd hfe;clear hfe;generalize hAF : at_ + fu.toNat = af at hwf hwg;have HAF := Hd hAF;clear hAF;generalize hAG : at_ + 1 + fu.toNat = ag at hwg;have HAG := Hd hAG;clear hAG
  go_region_with (go_at_call 97; refine (HFU.out _).mono ?_; rintro e w5 ⟨rfl, hb⟩; have HB5 := Hd hb; have x3' := (HMd.out.below HB5.out).bx.at 3 rfl; have f3' := (HMd.out.below HB5.out).bx.fr 3 rfl; clear hb)
  all_goals
   have HMJ := Hd ((HMd.out.below HB5.out).setAt af);have HKJ := Hd (((HKP.out.trans (Kp3.of HBd.out)).trans (Kp3.of HB5.out)).put mb 3 (.int .i64 (af : Int)) (.inl rfl));clear x3' f3';generalize w5.setCell ⟨mb, 3, none⟩ (.int .i64 (af : Int)) = X at HMJ HKJ ⊢;have y3 := HMJ.out.bx.at 3 rfl;have g3 := HMJ.out.bx.fr 3 rfl;go_wp2_with fail
   refine bodyPost_end (v := .tuple #[]) (by simp [results, Tryz.results52, go_sem]) rfl ?_;exact ⟨HKJ.out.put mb 3 _ (.inl rfl), .inl ⟨⟨ag, u, P, V⟩, by rw [HFE.out, HAG.out], rfl, HMJ.out.setAt ag⟩⟩
 ·have y3 := HM.out.bx.at 3 rfl;have g3 := HM.out.bx.fr 3 rfl;have hwa : IntKind.i64.wrap ((at_ : Int) + 1) = ((at_ + 1 : Nat) : Int) := by rw [IntWalk.i64_in _ (by omega)]; omega
  go_wp2_with fail
  refine bodyPost_end (v := .tuple #[]) (by simp [results, Tryz.results52, go_sem]) rfl ?_;exact ⟨HKP.out.put mb 3 _ (.inl rfl), .inl ⟨⟨at_ + 1, u, P, V⟩, rfl, rfl, HM.out.setAt (at_ + 1)⟩⟩
end Go.Proofs.YtmlpedgcpffpnaaGreatDoor
