/-
  Promise R3: the walks of VoidRun and of the reference's VoidRunOf.
-/
import Derived.Test.YtiedlmhahdnhaaaLSlipVoids
namespace Go.Proofs.Ytiedlmhahdnhaaa
open Go.RowKit Go.Sort

/-- 'append(v, u...)', ints. -/
theorem run_appI (w : World) (ty : TypeId) (B B' : Nat) (v u : Value) (l m : List Int) (hv : Grow w B v l) (hu : Grow w B' u m) (hl : l.length + m.length ≤ 1000000000) (hB : B ≤ w.heap.size) :
    ∃ v' w', (Builtin.append_ #[35, 35] ty #[v, u]).run Try.prog w = .ok v' w' ∧ Grow w' B v' (l ++ m) ∧ w.grownBy w' v.ownBlock ∧ (v'.ownBlock = v.ownBlock ∨ v'.ownBlock = some w.heap.size) := by
  obtain ⟨i0, hi, hz0, hz1, hz2⟩ := info_parts info_i
  rcases hu.2 with ⟨rfl, h0⟩ | ⟨g, c, cur, rfl, hg, _⟩
  · have h1 : m = [] := List.eq_nil_of_length_eq_zero h0
    subst h1
    rw [List.append_nil]
    exact ⟨_, _, run_append_owned_none (P := Try.prog) _ B 35 ty 3 i0 1 Try.underlying35 hi _ _ _ hv, hv, World.grownBy.refl _ _, .inl rfl⟩
  · obtain ⟨v', w', hr, h2, h3, _, h5⟩ := run_append_own_at (P := Try.prog) w B 35 ty 3 i0 _ 1 8 Try.underlying35 hi hz0 hz1 hz2 rfl (by decide) _ l.length _ hv ⟨g, 0, none⟩ m.length c (m.map (Value.int .i64)) (by simp) (fun j u hj => World.ownsRow.cells hu (g := g) rfl j u hj) (fun u hu => by obtain ⟨z, _, rfl⟩ := List.mem_map.1 hu; rfl) (by unfold maxLen; omega) (by omega) hB
    refine ⟨v', w', hr, ?_, h3, h5⟩
    unfold Grow
    rw [List.length_append, List.map_append]
    exact h2
/-- The slips, and the numbers, when the first k places have been gone through. -/
def runSt (l : List Sl) (r : Int) : Nat → List Sl × List Int
  | 0 => (l, [])
  | k + 1 => if ((snth (runSt l r k).1 k).run == r && !(snth (runSt l r k).1 k).gone) = true then (vd (runSt l r k).1 (snth (runSt l r k).1 k).per k, (runSt l r k).2 ++ gn (runSt l r k).1 (snth (runSt l r k).1 k).per k) else runSt l r k
def runL (l : List Sl) (r : Int) (k : Nat) : List Sl := (runSt l r k).1
def runG (l : List Sl) (r : Int) (k : Nat) : List Int := (runSt l r k).2
theorem runL_len (l : List Sl) (r : Int) : ∀ k, (runL l r k).length = l.length
  | 0 => rfl
  | k + 1 => by
    have ih := runL_len l r k
    unfold runL at *
    rw [runSt]
    split
    · exact (vd_len _ _ _).trans ih
    · exact ih
theorem runG_len (l : List Sl) (r : Int) : ∀ k, (runG l r k).length ≤ k * l.length
  | 0 => by simp [runG, runSt]
  | k + 1 => by
    have ih := runG_len l r k
    have hl := runL_len l r k
    unfold runL at hl
    unfold runG at *
    rw [runSt]
    split
    · rw [List.length_append]
      have := gn_len (runSt l r k).1 (snth (runSt l r k).1 k).per k
      rw [hl] at this
      rw [Nat.add_mul]
      omega
    · rw [Nat.add_mul]; omega
theorem run_yes {l : List Sl} {r : Int} {k : Nat} (h1 : ((snth (runL l r k) k).run == r) = true) (h2 : (snth (runL l r k) k).gone = false) : runL l r (k + 1) = vd (runL l r k) (snth (runL l r k) k).per k ∧ runG l r (k + 1) = runG l r k ++ gn (runL l r k) (snth (runL l r k) k).per k := by
  unfold runL runG at *
  rw [runSt, if_pos (by rw [h1, h2]; rfl)]
  exact ⟨rfl, rfl⟩
theorem run_no {l : List Sl} {r : Int} {k : Nat} (h : ((snth (runL l r k) k).run == r && !(snth (runL l r k) k).gone) = false) : runL l r (k + 1) = runL l r k ∧ runG l r (k + 1) = runG l r k := by
  unfold runL runG at *
  rw [runSt, if_neg (by rw [h]; decide)]
  exact ⟨rfl, rfl⟩
def runE (l : List Sl) (r : Int) : Int := if slE l = 0 then (if (runG l r l.length).length = 0 then 5 else 0) else slE l
def RunSame (w' : World) (v u : Value) (l : List Sl) (r : Int) : Prop := (runE l r ≠ 0 → v = .slice none 0 0 ∧ u = .slice none 0 0) ∧ (runE l r = 0 → SlsIn w' v (runL l r l.length) ∧ CameI w' u (runG l r l.length))
theorem RunSame.below {w w' : World} {v u : Value} {l : List Sl} {r : Int} (h : RunSame w v u l r) (hb : Go.RowKit.Below w.heap.size w w') : RunSame w' v u l r := ⟨h.1, fun he => ⟨(h.2 he).1.below hb, (h.2 he).2.below hb⟩⟩
theorem Grow.grown {w w' : World} {B : Nat} {v : Value} {l : List Int} {g : Nat} (h : Grow w B v l) (hg : w.grownBy w' (some g)) (hB : g < B) : Grow w' B v l := by
  refine World.ownsRow.kept h hg ?_
  cases hv : v.ownBlock with
  | none => exact .inl rfl
  | some k =>
    refine .inr fun e => ?_
    have h1 := (Grow.lt h _ hv).1
    injection e with e
    omega
theorem Grow.below {w w' : World} {B : Nat} {v : Value} {l : List Int} (h : Grow w B v l) (hb : Go.RowKit.Below w.heap.size w w') : Grow w' B v l := by
  refine World.ownsRow.kept (row := none) h ⟨hb.os, hb.tape, hb.output, hb.size, fun k hk _ => hb.block k hk⟩ ?_
  cases v.ownBlock with
  | none => exact .inl rfl
  | some k => exact .inr (Option.some_ne_none k)
/-- The totals of slips lie below E. -/
def TotE (w : World) (y : Option Addr) (l : List Sl) (E : Nat) : Prop := ∀ b off, y = some ⟨b, off, none⟩ → ∀ j, j < l.length → ∃ a c, w.cell? ⟨b, off + j * 5 + 4, none⟩ = some (.slice a (snth l j).tot.length c) ∧ ((snth l j).tot.length = 0 ∨ ∃ b' o', a = some ⟨b', o', none⟩ ∧ b' < E)
theorem CameS.totE {w : World} {y : Option Addr} {l : List Sl} (h : CameS w y l) : TotE w y l w.heap.size := by
  intro b off e j hj
  rcases h with h | ⟨b1, o1, e1, _, h⟩
  · omega
  · subst e
    cases e1
    obtain ⟨_, a, c, h1, h2⟩ := h j hj
    refine ⟨a, c, h1, ?_⟩
    rcases h2.1 with h3 | ⟨b', o', e', h3⟩
    · exact .inl h3
    · exact .inr ⟨b', o', e', h3.1⟩
theorem CameS.kept {w w' : World} {y : Option Addr} {l : List Sl} {E : Nat} {row : Option Nat} (h : CameS w y l) (ht : TotE w y l E) (hg : w.grownBy w' row) (hr1 : ∀ b off, y = some ⟨b, off, none⟩ → row ≠ some b) (hr2 : ∀ i, row = some i → E ≤ i) : CameS w' y l ∧ TotE w' y l E := by
  have cellk : ∀ b off, y = some ⟨b, off, none⟩ → ∀ o v, w.cell? ⟨b, o, none⟩ = some v → w'.cell? ⟨b, o, none⟩ = some v := fun b off e o v hv => hg.cell hv (fun e2 => hr1 b off e e2.symm)
  refine ⟨?_, fun b off e j hj => ?_⟩
  · rcases h with h | ⟨b, off, e, hb, h⟩
    · exact .inl h
    · refine .inr ⟨b, off, e, Nat.lt_of_lt_of_le hb hg.size, fun j hj => ?_⟩
      obtain ⟨⟨c0, c1, c2, c3⟩, a, c, h1, h2⟩ := h j hj
      refine ⟨⟨cellk b off e _ _ c0, cellk b off e _ _ c1, cellk b off e _ _ c2, cellk b off e _ _ c3⟩, a, c, cellk b off e _ _ h1, ?_, h2.2⟩
      obtain ⟨a', c', q1, q2⟩ := ht b off e j hj
      rw [h1] at q1
      injection q1 with q1
      injection q1 with q1 _ _
      subst q1
      rcases h2.1 with h3 | ⟨b', o', e', h3⟩
      · exact .inl h3
      · rcases q2 with q2 | ⟨b2, o2, e2, hlt⟩
        · exact .inl q2
        · rw [e'] at e2
          cases e2
          have hk : ∀ o v, w.cell? ⟨b', o, none⟩ = some v → w'.cell? ⟨b', o, none⟩ = some v := fun o v hv => hg.cell hv (fun e3 => by have := hr2 b' e3.symm; omega)
          exact .inr ⟨b', o', e', Nat.lt_of_lt_of_le h3.1 hg.size, fun i hi => ⟨hk _ _ (h3.2 i hi).1, hk _ _ (h3.2 i hi).2⟩⟩
  · obtain ⟨a, c, q1, q2⟩ := ht b off e j hj
    exact ⟨a, c, cellk b off e _ _ q1, q2⟩
set_option maxRecDepth 100000 in
set_option maxHeartbeats 4000000 in
theorem VoidRun_any (a : Option Addr) (n cap : Nat) (l : List Sl) (r : Int) (w : World) (hc : CameS w a l) (hn : l.length = n) :
    Calls Try.prog 20 #[.slice a n cap, .int .i64 r] w fun e w' => ∃ v u, e = .returned (.tuple #[v, u, .int .i64 (runE l r)]) ∧ RunSame w' v u l r ∧ Go.RowKit.Below w.heap.size w w' := by
  have HC := Lib.hid hc
  have HN := Lib.hid hn
  have HE : Hid (runE l r = if slE l = 0 then (if (runG l r l.length).length = 0 then 5 else 0) else slE l) := rfl
  clear hc hn
  go_enter Try.func20, Try.ntmps20
  go_wp2_with fail
  refine (Check_any a n cap l _ HC.out HN.out).mono ?_
  rintro e w1 ⟨rfl, hb1⟩
  have HB1 := Lib.hid hb1
  clear hb1
  by_cases h0 : slE l = 0
  · have H0 := Lib.hid h0
    rw [if_pos h0, HN.out] at HE
    rw [h0]
    have HL : Hid (n ≤ 200) := Lib.hid (by rw [← HN.out]; exact (slE_ok h0).1)
    have HTL : Hid (n ≤ 9223372036854775807) := Lib.hid (by have := HL.out; omega)
    have hn63 := HTL.out
    clear h0
    go_wp2_with fail
    refine (copied_any a n cap l _ (HC.out.below HB1.out) HN.out HL.out (fun j hj => slE_tot H0.out j (by rw [HN.out]; exact hj))).mono ?_
    rintro e w3 ⟨y, cy, D, rfl, hown, hb3⟩
    have HW3 := Lib.hid hown
    have HB3 := Lib.hid (HB1.out.trans (hb3.mono HB1.out.size))
    clear hown hb3
    go_wp2_with fail
    go_loopw [9, 20] (fun v i wr => ∃ k : Nat, k ≤ n ∧ i = .int .i64 k ∧ OwnS wr w1.heap.size D n (.slice y n cy) (runL l r k) ∧ Grow wr w3.heap.size v (runG l r k) ∧ Go.RowKit.Below w.heap.size w wr ∧ w3.heap.size ≤ wr.heap.size) (fun _ i _ => n - (intOf i).toNat)
    case atStart => exact ⟨0, Nat.zero_le _, rfl, HW3.out, Grow.nil _ _, HB3.out, Nat.le_refl _⟩
    case round =>
      clear HB3
      obtain ⟨k, hk, rfl, hown, hgr, hb, hsz⟩ := hrel
      have HW := Lib.hid hown
      have HGR := Lib.hid hgr
      have HB := Lib.hid hb
      have HSZ := Lib.hid hsz
      clear hgr hb hsz
      by_cases hlt : k < n
      · have hlt' : (k : Int) < (n : Int) := by omega
        have HKL : Hid (k < (runL l r k).length) := Lib.hid (by rw [runL_len, HN.out]; exact hlt)
        have hD3 : D ≤ w3.heap.size := by
          obtain ⟨_, _, _, _, _, h4, _⟩ := HW3.out.at (by rw [HN.out]; omega)
          exact h4
        obtain ⟨g, rfl, -, hBg, hgD, hDW, hrow, -⟩ := hown.at (by have := HKL.out; omega)
        obtain ⟨⟨-, -, y2, y3⟩, -⟩ := hrow k HKL.out
        have HD3 := Lib.hid hD3
        have HBG := Lib.hid hBg
        have HGD := Lib.hid hgD
        have HDW := Lib.hid hDW
        clear hown hBg hgD hDW hrow hD3
        have HYES := Lib.hid (fun h1 h2 => run_yes (l := l) (r := r) (k := k) h1 h2)
        have HNO := Lib.hid (fun h => run_no (l := l) (r := r) (k := k) h)
        have HGL := Lib.hid (runG_len l r k)
        have HG2 := Lib.hid (gn_len (runL l r k) (snth (runL l r k) k).per k)
        rw [runL_len, HN.out] at HG2
        rw [HN.out] at HGL
        obtain ⟨lk, hlk⟩ : ∃ lk, runL l r k = lk := ⟨_, rfl⟩
        have HLK := Lib.hid (show lk.length = n by rw [← hlk, runL_len, HN.out])
        rw [hlk] at y2 y3 HW HYES HNO HG2 HKL
        clear hlk
        cases hrn : ((snth lk k).run == r)
        · obtain ⟨e1, e2⟩ := HNO.out (by rw [hrn]; rfl)
          have HE1 := Lib.hid e1
          have HE2 := Lib.hid e2
          clear e1 e2 HYES HNO
          go_wp2_with fail
          go_roundw
          case rel => exact ⟨k + 1, by omega, by go_num, by rw [HE1.out]; exact HW.out, by rw [HE2.out]; exact HGR.out, HB.out, HSZ.out⟩
          case measure => simp [intOf]; omega
        · cases hgo : (snth lk k).gone
          · obtain ⟨e1, e2⟩ := HYES.out hrn hgo
            have HE1 := Lib.hid e1
            have HE2 := Lib.hid e2
            rw [hgo] at y3
            clear e1 e2 HYES HNO
            have HQ := Lib.hid (fun (_ : Unit) => voidFrom_any g n cy lk k w1.heap.size D n wr HW.out HLK.out hlt HL.out)
            go_wp2_with fail
            refine (HQ.out ()).mono ?_
            rintro e w4 ⟨u, rfl, hgu, hown4, hb4⟩
            have HGU := Lib.hid hgu
            have HW4 := Lib.hid hown4
            have HG4 := Lib.hid (HGR.out.grown hb4 (by have := HGD.out; have := HD3.out; omega))
            have HBX := Lib.hid (HB.out.trans ((grown_below hb4 (by have := HGD.out; have := HDW.out; omega)).mono (Nat.le_trans HB1.out.size HBG.out)))
            have HSZ4 : Hid (w3.heap.size ≤ w4.heap.size) := Lib.hid (Nat.le_trans HSZ.out hb4.size)
            clear hgu hown4 hb4 HQ y2 y3
            have HRUN := Lib.hid (run_appI w4 35 w3.heap.size _ _ _ _ _ HG4.out HGU.out (by
              have h1 := HGL.out
              have h2 := HG2.out
              have h3 := HL.out
              have h4 : k * n ≤ 200 * 200 := Nat.mul_le_mul (by omega) h3
              omega) HSZ4.out)
            go_wp2_with (at_builtin; refine wpList_run_app _ rfl _ _ _ rfl rfl rfl HRUN.out ?_; rintro v9 w9 ⟨hg9, hgr9, hd9⟩; refine Hid.out ?_)
            have HW9 := Lib.hid (HW4.out.grown hgr9 (fun i hi => by have := (HG4.out.lt i hi).1; have := HD3.out; omega))
            have HB9 := Lib.hid (HBX.out.grown hgr9 HBX.out.size (fun i hi => by have := (HG4.out.lt i hi).1; have h2 := HBG.out; have h3 := HGD.out; have h4 := HD3.out; have h5 := HB1.out.size; omega))
            have HSZ9 : Hid (w3.heap.size ≤ w9.heap.size) := Lib.hid (Nat.le_trans HSZ4.out hgr9.size)
            have HG9 := Lib.hid hg9
            clear hg9 hgr9 hd9 HRUN
            refine Lib.hid ?_
            go_wp2_with fail
            go_roundw
            case rel => exact ⟨k + 1, by omega, by go_num, by rw [HE1.out]; exact HW9.out, by rw [HE2.out]; exact HG9.out, HB9.out, HSZ9.out⟩
            case measure => simp [intOf]; omega
          · obtain ⟨e1, e2⟩ := HNO.out (by rw [hrn, hgo]; rfl)
            have HE1 := Lib.hid e1
            have HE2 := Lib.hid e2
            rw [hgo] at y3
            clear e1 e2 HYES HNO
            go_wp2_with fail
            go_roundw
            case rel => exact ⟨k + 1, by omega, by go_num, by rw [HE1.out]; exact HW.out, by rw [HE2.out]; exact HGR.out, HB.out, HSZ.out⟩
            case measure => simp [intOf]; omega
      · have hkn : k = n := by omega
        subst hkn
        clear hown
        obtain ⟨xv, cv, ev, hat⟩ := HGR.out.came
        subst ev
        have HCI : Hid (CameI wr (.slice xv (runG l r k).length cv) (runG l r k)) := ⟨xv, cv, rfl, hat⟩
        have HSI := Lib.hid HW.out.sls
        clear hat
        by_cases hz : (runG l r k).length = 0
        · rw [if_pos hz] at HE
          rw [hz]
          go_wp2_with fail
          refine bodyPost_ret (v := .tuple #[.slice none 0 0, .slice none 0 0, .int .i64 _]) (by simp [results, Try.results20, go_sem] <;> rfl) rfl ?_
          rw [HE.out]
          exact ⟨_, _, rfl, ⟨fun _ => ⟨rfl, rfl⟩, fun h => absurd h (by rw [HE.out]; decide)⟩, HB.out⟩
        · rw [if_neg hz] at HE
          have hz' : (((runG l r k).length : Int) == 0) = false := by rw [beq_eq_false_iff_ne]; omega
          obtain ⟨mm, hmm⟩ : ∃ mm, (runG l r k).length = mm := ⟨_, rfl⟩
          have HMM := Lib.hid hmm
          rw [hmm] at HCI hz' ⊢
          clear hz hmm
          go_wp2_with fail
          refine bodyPost_ret (v := .tuple #[.slice y k cy, .slice xv mm cv, .int .i64 0]) (by simp [results, Try.results20, go_sem] <;> rfl) rfl ?_
          rw [HE.out]
          exact ⟨_, _, rfl, ⟨fun h => absurd HE.out h, fun _ => ⟨by rw [HN.out]; exact HSI.out, by rw [HN.out]; exact HCI.out⟩⟩, HB.out⟩
  · rw [if_neg h0] at HE
    have H0 := Lib.hid h0
    have h0' : (slE l != 0) = true := by simp [h0]
    obtain ⟨cc, hcc⟩ : ∃ c, slE l = c := ⟨_, rfl⟩
    rw [hcc] at HE h0' ⊢
    have HCC := Lib.hid hcc
    clear h0 hcc
    go_wp2_with fail
    refine bodyPost_ret (v := .tuple #[.slice none 0 0, .slice none 0 0, .int .i64 _]) (by simp [results, Try.results20, go_sem] <;> rfl) rfl ?_
    rw [HE.out]
    exact ⟨_, _, rfl, ⟨fun _ => ⟨rfl, rfl⟩, fun h => absurd (HCC.out.trans (HE.out.symm.trans h)) H0.out⟩, HB1.out⟩
set_option maxRecDepth 100000 in
set_option maxHeartbeats 4000000 in
theorem voidRunOf_ref (a : Option Addr) (n cap : Nat) (l : List Sl) (r : Int) (w : World) (hc : CameS w a l) (hn : l.length = n) (h0 : slE l = 0) :
    Calls Try.prog 21 #[.slice a n cap, .int .i64 r] w fun e w' => ∃ v u, e = .returned (.tuple #[v, u, .int .i64 (runE l r)]) ∧ RunSame w' v u l r ∧ Go.RowKit.Below w.heap.size w w' := by
  have HC := Lib.hid hc
  have HN := Lib.hid hn
  have HE : Hid (runE l r = if (runG l r n).length = 0 then 5 else 0) := by unfold Hid runE; rw [if_pos h0, hn]
  have HL : Hid (n ≤ 200) := Lib.hid (by rw [← hn]; exact (slE_ok h0).1)
  have hn63 : n ≤ 9223372036854775807 := by have := HL.out; omega
  clear hc hn h0
  go_enter Try.func21, Try.ntmps21
  go_wp2_with fail
  go_loopw [0, 7, 8] (fun x v i wr => ∃ (k cy : Nat) (y : Option Addr), k ≤ n ∧ i = .int .i64 k ∧ x = .slice y n cy ∧ CameS wr y (runL l r k) ∧ Grow wr w.heap.size v (runG l r k) ∧ Go.RowKit.Below w.heap.size w wr ∧ TotE wr y (runL l r k) w.heap.size ∧ ∀ b off, y = some ⟨b, off, none⟩ → v.ownBlock ≠ some b) (fun _ _ i _ => n - (intOf i).toNat)
  case atStart => exact ⟨0, cap, a, Nat.zero_le _, rfl, rfl, HC.out, Grow.nil _ _, Below.refl _ _, HC.out.totE, fun _ _ _ h => by cases h⟩
  case round =>
    obtain ⟨k, cy, y, hk, rfl, rfl, hcm, hgr, hb, hte, hnb⟩ := hrel
    have HTE := Lib.hid hte
    have HNB := Lib.hid hnb
    have HW := Lib.hid hcm
    have HGR := Lib.hid hgr
    have HB := Lib.hid hb
    clear hgr hb hcm hte hnb
    by_cases hlt : k < n
    · have hlt' : (k : Int) < (n : Int) := by omega
      have HYES := Lib.hid (fun h1 h2 => run_yes (l := l) (r := r) (k := k) h1 h2)
      have HNO := Lib.hid (fun h => run_no (l := l) (r := r) (k := k) h)
      have HGL := Lib.hid (runG_len l r k)
      have HG2 := Lib.hid (gn_len (runL l r k) (snth (runL l r k) k).per k)
      rw [runL_len, HN.out] at HG2
      rw [HN.out] at HGL
      obtain ⟨lk, hlk⟩ : ∃ lk, runL l r k = lk := ⟨_, rfl⟩
      have HLK := Lib.hid (show lk.length = n by rw [← hlk, runL_len, HN.out])
      rw [hlk] at HW HYES HNO HG2 HTE
      clear hlk
      obtain ⟨b, off, rfl, hcell⟩ := HW.out.open HLK.out (by omega)
      obtain ⟨⟨-, -, y2, y3⟩, -⟩ := hcell _ (Below.refl _ _) k hlt
      clear hcell
      cases hrn : ((snth lk k).run == r)
      · obtain ⟨e1, e2⟩ := HNO.out (by rw [hrn]; rfl)
        have HE1 := Lib.hid e1
        have HE2 := Lib.hid e2
        clear e1 e2 HYES HNO
        go_wp2_with fail
        go_roundw
        case rel => exact ⟨k + 1, _, _, by omega, by go_num, rfl, by rw [HE1.out]; exact HW.out, by rw [HE2.out]; exact HGR.out, HB.out, by rw [HE1.out]; exact HTE.out, HNB.out⟩
        case measure => simp [intOf]; omega
      · cases hgo : (snth lk k).gone
        · obtain ⟨e1, e2⟩ := HYES.out hrn hgo
          have HE1 := Lib.hid e1
          have HE2 := Lib.hid e2
          rw [hgo] at y3
          clear e1 e2 HYES HNO
          go_wp2_with fail
          refine (voids_ref _ n cy lk k _ HW.out HLK.out hlt HL.out).mono ?_
          rintro e w4 ⟨g4, c4, u, D4, rfl, hown4, hgu, hb4, hg4, ht4⟩
          obtain ⟨x4, c4', e4, hs4⟩ := hown4.slice
          injection e4 with e41 e42 e43
          subst e41
          have HG4S := Lib.hid hg4
          have HTE4 : Hid (TotE w4 (some ⟨g4, 0, none⟩) (vd lk (snth lk k).per k) w.heap.size) := Lib.hid (fun b' off' e' j hj => by
            cases e'
            rw [vd_len, HLK.out] at hj
            obtain ⟨a1, c1, q1, q2⟩ := HTE.out b off rfl j (by rw [HLK.out]; exact hj)
            have ee : (snth (vd lk (snth lk k).per k) j).tot = (snth lk j).tot := by
              rw [snth_vd (by rw [HLK.out]; exact hj)]
              split <;> rfl
            rw [Nat.zero_add, ht4 b off rfl j hj, ee]
            exact ⟨a1, c1, q1, q2⟩)
          have HGU := Lib.hid hgu
          have HW4 := Lib.hid hs4
          have HG4 := Lib.hid (HGR.out.below hb4)
          have HBX := Lib.hid (HB.out.trans (hb4.mono HB.out.size))
          clear hgu hown4 hb4 hs4 e42 e43 y2 y3 hg4 ht4
          have HRUN := Lib.hid (run_appI w4 35 w.heap.size _ _ _ _ _ HG4.out HGU.out (by
            have h1 := HGL.out
            have h2 := HG2.out
            have h3 := HL.out
            have h4 : k * n ≤ 200 * 200 := Nat.mul_le_mul (by omega) h3
            omega) HBX.out.size)
          have HLT := Lib.hid HG4.out.lt
          have HLW := Lib.hid HGR.out.lt
          go_wp2_with (at_builtin; refine wpList_run_app _ rfl _ _ _ rfl rfl rfl HRUN.out ?_; rintro v9 w9 ⟨hg9, hgr9, hd9⟩; refine Hid.out ?_)
          have HB9 := Lib.hid (HBX.out.grown hgr9 HBX.out.size (fun i hi => (HLT.out i hi).1))
          obtain ⟨hc9, ht9⟩ := HW4.out.kept HTE4.out hgr9 (fun b' off' e' h' => by cases e'; have := (HLW.out _ h').2; have := HG4S.out; omega) (fun i hi => (HLT.out i hi).1)
          have HC9 := Lib.hid hc9
          have HT9 := Lib.hid ht9
          have HN9 : Hid (∀ b' off', (some (⟨g4, 0, none⟩ : Addr)) = some ⟨b', off', none⟩ → v9.ownBlock ≠ some b') := Lib.hid (fun b' off' e' h' => by
            cases e'
            rcases hd9 with h | h
            · rw [h] at h'
              have := (HLW.out _ h').2
              have := HG4S.out
              omega
            · rw [h] at h'
              injection h' with h'
              rcases HW4.out with h0 | ⟨b1, o1, e1, hb1, _⟩
              · rw [vd_len, HLK.out] at h0; omega
              · cases e1; omega)
          have HG9 := Lib.hid hg9
          clear hg9 hgr9 hd9 HRUN hc9 ht9
          refine Lib.hid ?_
          go_wp2_with fail
          go_roundw
          case rel => exact ⟨k + 1, _, _, by omega, by go_num, rfl, by rw [HE1.out]; exact HC9.out, by rw [HE2.out]; exact HG9.out, HB9.out, by rw [HE1.out]; exact HT9.out, HN9.out⟩
          case measure => simp [intOf]; omega
        · obtain ⟨e1, e2⟩ := HNO.out (by rw [hrn, hgo]; rfl)
          have HE1 := Lib.hid e1
          have HE2 := Lib.hid e2
          rw [hgo] at y3
          clear e1 e2 HYES HNO
          go_wp2_with fail
          go_roundw
          case rel => exact ⟨k + 1, _, _, by omega, by go_num, rfl, by rw [HE1.out]; exact HW.out, by rw [HE2.out]; exact HGR.out, HB.out, by rw [HE1.out]; exact HTE.out, HNB.out⟩
          case measure => simp [intOf]; omega
    · have hkn : k = n := by omega
      subst hkn
      obtain ⟨xv, cv, ev, hat⟩ := HGR.out.came
      subst ev
      have HCI : Hid (CameI wr (.slice xv (runG l r k).length cv) (runG l r k)) := ⟨xv, cv, rfl, hat⟩
      have HSI : Hid (SlsIn wr (.slice y k cy) (runL l r k)) := ⟨y, cy, by rw [runL_len, HN.out], HW.out⟩
      clear hat
      by_cases hz : (runG l r k).length = 0
      · rw [if_pos hz] at HE
        rw [hz]
        go_wp2_with fail
        refine bodyPost_ret (v := .tuple #[.slice none 0 0, .slice none 0 0, .int .i64 _]) (by simp [results, Try.results21, go_sem] <;> rfl) rfl ?_
        rw [HE.out]
        exact ⟨_, _, rfl, ⟨fun _ => ⟨rfl, rfl⟩, fun h => absurd h (by rw [HE.out]; decide)⟩, HB.out⟩
      · rw [if_neg hz] at HE
        have hz' : (((runG l r k).length : Int) == 0) = false := by rw [beq_eq_false_iff_ne]; omega
        obtain ⟨mm, hmm⟩ : ∃ mm, (runG l r k).length = mm := ⟨_, rfl⟩
        rw [hmm] at HCI hz' ⊢
        clear hz hmm
        go_wp2_with fail
        refine bodyPost_ret (v := .tuple #[.slice y k cy, .slice xv mm cv, .int .i64 0]) (by simp [results, Try.results21, go_sem] <;> rfl) rfl ?_
        rw [HE.out]
        exact ⟨_, _, rfl, ⟨fun h => absurd HE.out h, fun _ => ⟨by rw [HN.out]; exact HSI.out, by rw [HN.out]; exact HCI.out⟩⟩, HB.out⟩
end Go.Proofs.Ytiedlmhahdnhaaa
