/-
  Promise P3: the walk of the reference's ParseFile.
-/
import Derived.Test.YtdfgkngfpedgdaaDoorBFrm
import Derived.Test.YtdfgkngfpedgdaaDoorBPln
import Derived.Test.YtdfgkngfpedgdaaDoorLBankBack
import Derived.Deep.RegionHeld3
namespace Go.Proofs.YtdfgkngfpedgdaaDoor
open Go.RowKit

def BadR (s : ByteArray) (er a : Int) : Prop := (er = 1 ∧ ∃ c o : Nat, a = (o : Int) ∧ (o < 25 ∨ numT (s.extract 6 (6 + 3)) = (c : Int)) ∧ c ≤ 999 ∧ Stops (fileQ s c) (25 + 45 * c + 13) o) ∨ (a = 0 ∧ ∃ c, Form s c ∧ er = refE s c)
def RefIs (s : ByteArray) (w : World) (e : Ending) (w' : World) : Prop :=
  Below w.heap.size w w' ∧ ((∃ (c : Nat) (v : Value), Form s c ∧ refE s c = 0 ∧ e = .returned (.tuple #[.int .i64 (dayT s), v, .agg #[.int .i64 0, .int .i64 0]]) ∧ GrowP w' w.heap.size v (lnsOf s c))
    ∨ ∃ er a : Int, er ≠ 0 ∧ e = .returned (.tuple #[.int .i64 0, .slice none 0 0, .agg #[.int .i64 er, .int .i64 a]]) ∧ BadR s er a)
theorem head_dig {s : ByteArray} (h : ∀ j, j < 25 → headQ s j = true) {a n : Nat} (ha : 1 ≤ a) (hn : a + n ≤ 24) : ∀ j, j < n → digB (bt s (a + j)) = true := fun j hj => by
  have := h (a + j) (by omega)
  unfold headQ at this
  rwa [if_neg (by omega), if_pos (by omega)] at this
theorem head_size {s : ByteArray} (h : ∀ j, j < 25 → headQ s j = true) : 25 ≤ s.size := by
  have := h 24 (by omega)
  by_cases e : 24 < s.size
  · omega
  · unfold headQ at this
    rw [if_neg (by omega), if_neg (by omega), bt_out e] at this
    exact absurd this (by decide)
theorem numr_any {s : ByteArray} {k n : Nat} (h : k + n ≤ s.size) (hn : n ≤ 15) (hd : ∀ j, j < n → digB (bt s (k + j)) = true) (w : World) :
    Calls Tryd.prog 34 #[.string (s.extract k (k + n))] w fun e w' => e = .returned (.int .i64 (numT (s.extract k (k + n)))) ∧ w' = w :=
  number_ref _ w (ext_dig h hd) (by rw [ext_size h]; exact hn)
theorem step_appP {ops : Array Oper} {o : Oper} {a : Act} {K : Act → World → Prop} {Q : Exit → Act → World → Prop} {E : Prop} (w : World) (hgd : o.guard = none) (s x : Operand)
    (ho : o.op = .call { callee := .builtin .append, args := #[s, x], argTypes := #[31, 31] })
    (B : Nat) (v : Value) (l : List Py) (hs : a.eval s = v) (hown : GrowP w B v l) (b c : Nat) (p : Py) (hx : a.eval x = .slice (some ⟨b, 0, none⟩) 1 c)
    (h0 : w.cell? ⟨b, 0, none⟩ = some (.string p.acc)) (h1 : w.cell? ⟨b, 1, none⟩ = some (.string p.nam)) (h2 : w.cell? ⟨b, 2, none⟩ = some (.int .i64 p.mon)) (h3 : w.cell? ⟨b, 3, none⟩ = some (.int .i64 p.ref))
    (hb : l.length ≤ 1000) (hB : B ≤ w.heap.size)
    (h : ∀ v' w', GrowP w' B v' (l ++ [p]) → Below B w w' → K (a.put o.dst v') w') :
    if Region.wanted o (yielded ops a.tmps) = true then Oper.wp Tryd.prog o a w K Q else E := by
  have hw : Region.wanted o (yielded ops a.tmps) = true := by simp [Region.wanted, hgd]
  rw [if_pos hw]
  obtain ⟨i0, hi, hz0, hz1, hz2⟩ := info_parts py_info
  have hnews : ∀ j u, (encP p)[j]? = some u → w.cell? ((⟨b, 0, none⟩ : Addr).add j) = some u := by
    intro j u hu
    rw [Addr.add_lit, Nat.zero_add]
    match j with
    | 0 => simp [encP] at hu; subst hu; exact h0
    | 1 => simp [encP] at hu; subst hu; exact h1
    | 2 => simp [encP] at hu; subst hu; exact h2
    | 3 => simp [encP] at hu; subst hu; exact h3
    | j + 4 => simp [encP] at hu
  obtain ⟨v', w', hr, r2, r3, _, r5⟩ := run_append_own_at (P := Tryd.prog) w B 31 o.type 46 i0 _ 4 48 Tryd.underlying31 hi hz0 hz1 hz2 rfl (by decide) v l.length (cellsP l) hown ⟨b, 0, none⟩ 1 c (encP p) rfl hnews (by intro u hu; simp [encP] at hu; rcases hu with rfl | rfl | rfl | rfl <;> rfl) (by unfold maxLen; omega) (by omega) hB
  have r2' : GrowP w' B v' (l ++ [p]) := by
    unfold GrowP
    rw [List.length_append, cellsP_append]
    simpa [cellsP] using r2
  unfold Oper.wp execOp
  simp only [ho, resolve, invoke, builtin, Sem.run_bind, Sem.run_pure, Result.andThen_ok, List.map_toArray, List.map_cons, List.map_nil, hs, hx, hr]
  exact h v' w' r2' ((Below.refl B w).grown r3 hB fun k hk => (GrowP.lt hown k hk).1)
theorem OB.belowB {w w' : World} {g B : Nat} {vs : Array Value} {T : TypeId} (h : OB w g vs T) (hb : Below B w w') (hg : g < B) : OB w' g vs T := by
  unfold OB
  rw [hb.block g hg]
  exact h
theorem tail_size {s : ByteArray} {k : Nat} (h : ∀ j, j < 12 → tailQ s k j = true) : k + 12 ≤ s.size := by
  have := h 11 (by omega)
  by_cases e : k + 11 < s.size
  · omega
  · unfold tailQ at this
    rw [if_neg (by omega), if_neg (by omega), if_pos (by omega), bt_out e] at this
    exact absurd this (by decide)
theorem tail_more {s : ByteArray} {k : Nat} (h : k + 12 < s.size) : tailQ s k 12 = false := by
  unfold tailQ
  rw [if_neg (by omega), if_neg (by omega), if_neg (by omega), bt_in h]
  unfold eqB
  exact decide_eq_false (by omega)
theorem tail_end {s : ByteArray} {k : Nat} (h : s.size = k + 12) : tailQ s k 12 = true := by
  unfold tailQ
  rw [if_neg (by omega), if_neg (by omega), if_neg (by omega), bt_out (by omega)]
  rfl
set_option maxRecDepth 100000 in
set_option maxHeartbeats 16000000 in
theorem parseFile_ref (s : ByteArray) (w : World) (hs : s.size ≤ 9223372036854775807) :
    Calls Tryd.prog 22 #[.string s] w fun e w' => RefIs s w e w' := by
  have HB0 := Lib.hid (((Below.refl w.heap.size w).alloc (Nat.le_refl _) (.cells #[.int .i64 0, .int .i64 0] 38)).alloc (by simp) (.cells #[.int .u8 10] 5))
  have HO0 := Lib.hid ((OB.made w #[.int .i64 0, .int .i64 0] 38).alloc (.cells #[.int .u8 10] 5))
  have hcv := conv_nl (w.alloc (.cells #[.int .i64 0, .int .i64 0] 38))
  rw [World.size_alloc] at hcv
  have hzH : (⟨#[70, 48, 48, 48, 48, 48, 48, 48, 48, 48, 48, 48, 48, 48, 48, 48, 48, 48, 48, 48, 48, 48, 48, 48]⟩ : ByteArray).size + (⟨#[10]⟩ : ByteArray).size ≤ 9223372036854775807 := by decide
  have hH : (⟨#[70, 48, 48, 48, 48, 48, 48, 48, 48, 48, 48, 48, 48, 48, 48, 48, 48, 48, 48, 48, 48, 48, 48, 48]⟩ : ByteArray) ++ (⟨#[10]⟩ : ByteArray) = fmH := by decide +kernel
  have hP : (⟨#[80, 48, 48, 48, 48, 48, 48, 48, 48, 48, 48, 48, 48, 48, 48, 48, 48, 48, 48, 48, 48, 48, 48, 48, 48, 48, 48, 48, 48, 48, 48, 48, 110, 110, 110, 110, 110, 110, 110, 110, 110, 110, 110, 110]⟩ : ByteArray) ++ (⟨#[10]⟩ : ByteArray) = fmP := by decide +kernel
  have hE : (⟨#[69, 48, 48, 48, 48, 48, 48, 48, 48, 48, 48]⟩ : ByteArray) ++ (⟨#[10]⟩ : ByteArray) = fmE := by decide +kernel
  go_enter Tryd.func22, Tryd.ntmps22
  go_wp2_with fail
  clear hcv
  generalize ((w.alloc (.cells #[.int .i64 0, .int .i64 0] 38)).alloc (.cells #[.int .u8 10] 5)) = W0 at *
  refine (lineH_ref s _).mono ?_
  rintro e w' ⟨h', ⟨h2, rfl⟩ | ⟨o, h2, rfl⟩⟩
  case' inr =>
    subst w'
    obtain ⟨⟨x0, z0⟩, x1, z1⟩ := HO0.out.two
    have HBAD : Hid (BadR s 1 (o : Int)) := .inl ⟨rfl, 0, o, rfl, .inl h2.1, by omega, by have := h2.1; omega, fun j hj => by have := h2.1; unfold fileQ; rw [if_pos (by omega)]; exact h2.2.1 j hj, by have := h2.1; unfold fileQ; rw [if_pos h2.1]; exact h2.2.2⟩
    have HO1 := Lib.hid ((HO0.out.set 0 (.int .i64 1)).set 1 (.int .i64 (o : Int)))
    have HB1 := Lib.hid ((HB0.out.setCell (p := ⟨w.heap.size, 0, none⟩) (Nat.le_refl _) (.int .i64 1)).setCell (p := ⟨w.heap.size, 1, none⟩) (Nat.le_refl _) (.int .i64 (o : Int)))
    clear h2
    go_wp2_with fail
    have q := HO1.out.two
    have q0 := q.1.1
    have q1 := q.2.1
    clear q x0 x1 z0 z1
    generalize (W0.setCell ⟨w.heap.size, 0, none⟩ (.int .i64 1)).setCell ⟨w.heap.size, 1, none⟩ (.int .i64 (o : Int)) = wf at *
    have HPOST : Hid (RefIs s w (.returned (.tuple #[.int .i64 0, .slice none 0 0, .agg #[.int .i64 1, .int .i64 (o : Int)]])) wf) := ⟨HB1.out, .inr ⟨1, o, by decide, rfl, HBAD.out⟩⟩
    refine bodyPost_ret (v := .tuple #[.int .i64 0, .slice none 0 0, .agg #[.int .i64 1, .int .i64 (o : Int)]]) (by simp [results, Tryd.results22, go_sem, q0, q1]) rfl HPOST.out
  subst w'
  have HQ0 := Lib.hid h2
  have hs25 := head_size h2
  have HN1 := Lib.hid (fun w => numr_any (s := s) (k := 1) (n := 5) (by omega) (by omega) (head_dig h2 (by omega) (by omega)) w)
  have HN2 := Lib.hid (fun w => numr_any (s := s) (k := 6) (n := 3) (by omega) (by omega) (head_dig h2 (by omega) (by omega)) w)
  have HN3 := Lib.hid (fun w => numr_any (s := s) (k := 9) (n := 15) (by omega) (by omega) (head_dig h2 (by omega) (by omega)) w)
  have hbd := numT_bd (s := s) (k := 6) (n := 3) (by omega) (head_dig h2 (by omega) (by omega))
  obtain ⟨c, hc⟩ : ∃ c : Nat, numT (s.extract 6 (6 + 3)) = (c : Int) := ⟨(numT (s.extract 6 (6 + 3))).toNat, by omega⟩
  have HC := Lib.hid hc
  rw [hc] at HN2 hbd
  have hc9 : c ≤ 999 := by omega
  clear h2 hbd hc
  have i1 : (1 : Int) ≤ (s.size : Int) ∧ (6 : Int) ≤ (s.size : Int) ∧ (9 : Int) ≤ (s.size : Int) ∧ (24 : Int) ≤ (s.size : Int) := by omega
  obtain ⟨i1, i2, i3, i4⟩ := i1
  have HDY : Hid (dayT s = numT (s.extract 1 (1 + 5))) := rfl
  obtain ⟨t1, ht1⟩ : ∃ t, s.extract 1 6 = t := ⟨_, rfl⟩
  obtain ⟨t2, ht2⟩ : ∃ t, s.extract 6 9 = t := ⟨_, rfl⟩
  obtain ⟨t3, ht3⟩ : ∃ t, s.extract 9 24 = t := ⟨_, rfl⟩
  have HN1 : Hid (∀ w, Calls Tryd.prog 34 #[.string t1] w fun e w' => e = .returned (.int .i64 (numT t1)) ∧ Below w.heap.size w w') := fun w => by rw [← ht1]; exact (HN1.out w).mono fun _ _ h => ⟨h.1, h.2 ▸ Below.refl _ _⟩
  have HN2 : Hid (∀ w, Calls Tryd.prog 34 #[.string t2] w fun e w' => e = .returned (.int .i64 (c : Int)) ∧ Below w.heap.size w w') := fun w => by rw [← ht2]; exact (HN2.out w).mono fun _ _ h => ⟨h.1, h.2 ▸ Below.refl _ _⟩
  have HN3 : Hid (∀ w, Calls Tryd.prog 34 #[.string t3] w fun e w' => e = .returned (.int .i64 (numT t3)) ∧ Below w.heap.size w w') := fun w => by rw [← ht3]; exact (HN3.out w).mono fun _ _ h => ⟨h.1, h.2 ▸ Below.refl _ _⟩
  have HT1 : Hid (numT t1 = dayT s) := by unfold Hid; rw [← ht1]; rfl
  have HT3 : Hid (numT t3 = numT (s.extract 9 (9 + 15))) := by unfold Hid; rw [← ht3]
  generalize numT t1 = dy at *
  generalize numT t3 = sm at *
  go_wp2_with fail
  refine wp_region_quiet_below (by kernel_rfl) (by kernel_rfl) ?_
  repeat (go_big_quiet_step (first | (go_at_call_of 34 t1; exact Calls.regrown_of (HN1.out _)) | (go_at_call_of 34 t2; exact Calls.regrown_of (HN2.out _)) | (go_at_call_of 34 t3; exact Calls.regrown_of (HN3.out _))))
  refine wpQuiet_nil ?_
  intro _ hw'
  obtain ⟨⟨dq, osq⟩, hw''⟩ := hw'
  subst hw''
  have HB1 := Lib.hid (HB0.out.trans ((below_regrown W0 dq osq).mono HB0.out.size))
  have HO1 := Lib.hid (HO0.out.below (below_regrown W0 dq osq))
  clear ht1 ht2 ht3 HN1 HN2 HN3 HB0 HO0
  go_wp2_with fail
  have HQH : Hid (∀ j, j < 25 + 45 * 0 → fileQ s c j = true) := fun j hj => by unfold fileQ; rw [if_pos (by omega)]; exact HQ0.out j (by omega)
  generalize «Sort».grow (redrawn W0 dq) osq = W1 at *
  have hzP : (⟨#[80, 48, 48, 48, 48, 48, 48, 48, 48, 48, 48, 48, 48, 48, 48, 48, 48, 48, 48, 48, 48, 48, 48, 48, 48, 48, 48, 48, 48, 48, 48, 48, 110, 110, 110, 110, 110, 110, 110, 110, 110, 110, 110, 110]⟩ : ByteArray).size + (⟨#[10]⟩ : ByteArray).size ≤ 9223372036854775807 := by decide
  clear hzH hH
  go_loopw [6, 7, 11, 12] (fun a ok lv i wr => ∃ n k : Nat, n ≤ c ∧ k = 25 + 45 * n ∧ i = .int .i64 n ∧ a = .int .i64 (k : Int) ∧ ok = .bool true ∧ GrowP wr (w.heap.size + 1) lv (lnsOf s n) ∧ Below w.heap.size w wr ∧ OB wr w.heap.size #[.int .i64 0, .int .i64 0] 38 ∧ (∀ j, j < k → fileQ s c j = true) ∧ k ≤ s.size) (fun _ _ _ i _ => c - (intOf i).toNat)
  case atStart => exact ⟨0, 25, Nat.zero_le _, rfl, rfl, rfl, rfl, GrowP.nil _ _, HB1.out, HO1.out, HQH.out, hs25⟩
  case round =>
    clear HB1 HO1 HQH
    obtain ⟨n, k, hn, hk, rfl, rfl, rfl, hgp, hb, ho, hq, hks⟩ := hrel
    have HGP := Lib.hid hgp
    have HB := Lib.hid hb
    have HO := Lib.hid ho
    have HQ := Lib.hid hq
    have HK := Lib.hid hk
    have hk9 : k ≤ 25 + 45 * n := by omega
    obtain ⟨xa, xc, hv, _⟩ := hgp.came (lnsOf_len s n)
    subst hv
    clear hgp hb ho hq hk
    by_cases hlt : n < c
    · have hlt' : (n : Int) < (c : Int) := by omega
      go_wp2_with fail
      refine (lineP_ref s k _ (by omega) (k : Int) ((k + 45 : Nat) : Int) rfl (by omega)).mono ?_
      rintro e w' ⟨h', ⟨h2, rfl⟩ | ⟨o, h2, rfl⟩⟩
      case' inr =>
        subst w'
        obtain ⟨⟨x0, z0⟩, x1, z1⟩ := HO.out.two
        obtain ⟨m, hm⟩ : ∃ m : Nat, m = k + o := ⟨_, rfl⟩
        have hmI : (k : Int) + (o : Int) = (m : Int) := by omega
        have HBAD : Hid (BadR s 1 (m : Int)) := by
          refine .inl ⟨rfl, c, m, rfl, .inr HC.out, hc9, ?_⟩
          rw [hm, HK.out]
          exact stop (fun j hj => HQ.out j (by rw [HK.out]; exact hj)) h2.1 (fun j hj => by have := h2.2.1 j hj; rwa [HK.out] at this) (by have := h2.2.2; rwa [HK.out] at this) (show 25 + 45 * n + 45 ≤ 25 + 45 * c + 13 by omega) (fun j hj => fileQ_line s c n j hlt hj)
        have HO1 := Lib.hid ((HO.out.set 0 (.int .i64 1)).set 1 (.int .i64 (m : Int)))
        have HB1 := Lib.hid ((HB.out.setCell (p := ⟨w.heap.size, 0, none⟩) (Nat.le_refl _) (.int .i64 1)).setCell (p := ⟨w.heap.size, 1, none⟩) (Nat.le_refl _) (.int .i64 (m : Int)))
        clear h2 hm
        go_wp2_with fail
        have q := HO1.out.two
        have q0 := q.1.1
        have q1 := q.2.1
        clear q x0 x1 z0 z1
        generalize (wr.setCell ⟨w.heap.size, 0, none⟩ (.int .i64 1)).setCell ⟨w.heap.size, 1, none⟩ (.int .i64 (m : Int)) = wf at *
        have HPOST : Hid (RefIs s w (.returned (.tuple #[.int .i64 0, .slice none 0 0, .agg #[.int .i64 1, .int .i64 (m : Int)]])) wf) := ⟨HB1.out, .inr ⟨1, m, by decide, rfl, HBAD.out⟩⟩
        refine bodyPost_ret (v := .tuple #[.int .i64 0, .slice none 0 0, .agg #[.int .i64 1, .int .i64 (m : Int)]]) (by simp [results, Tryd.results22, go_sem, q0, q1]) rfl HPOST.out
      subst w'
      have HL := Lib.hid h2
      have hk45 := line_size h2
      have HPL := Lib.hid (LineP.of hk45)
      have HQ2 : Hid (∀ j, j < k + 45 → fileQ s c j = true) := fun j hj => by
        by_cases e : j < k
        · exact HQ.out j e
        · have := fileQ_line s c n (j - k) hlt (by omega)
          rw [← HK.out, show k + (j - k) = j by omega] at this
          rw [this]
          exact HL.out _ (by omega)
      have HN1 := Lib.hid (fun w => numr_any (s := s) (k := k + 13) (n := 13) (by omega) (by omega) (line_num h2 (by omega) (by omega)) w)
      have HN2 := Lib.hid (fun w => numr_any (s := s) (k := k + 26) (n := 6) (by omega) (by omega) (line_num h2 (by omega) (by omega)) w)
      clear h2
      have ik : (k : Int) ≤ ((k + 45 : Nat) : Int) ∧ ((k + 45 : Nat) : Int) ≤ (s.size : Int) := by omega
      obtain ⟨ik1, ik2⟩ := ik
      obtain ⟨p, hp⟩ : ∃ z, s.extract k (k + 45) = z := ⟨_, rfl⟩
      rw [hp] at HPL
      go_wp2_with fail
      rw [hp]
      clear hp ik1 ik2
      have hp45 : p.size = 45 := HPL.out.1
      have HU1' := Lib.hid (HPL.out.2.1 13 26 (by omega))
      have HU2' := Lib.hid (HPL.out.2.1 26 32 (by omega))
      have i13 : (13 : Int) ≤ (p.size : Int) := by omega
      have i26 : (26 : Int) ≤ (p.size : Int) := by omega
      have i32 : (32 : Int) ≤ (p.size : Int) := by omega
      have i1 : (1 : Int) ≤ (p.size : Int) := by omega
      rw [show k + 13 + 13 = k + 26 from rfl, ← HU1'.out] at HN1
      rw [show k + 26 + 6 = k + 32 from rfl, ← HU2'.out] at HN2
      obtain ⟨m1, hm1⟩ : ∃ z, numT (p.extract 13 26) = z := ⟨_, rfl⟩
      obtain ⟨m2, hm2⟩ : ∃ z, numT (p.extract 26 32) = z := ⟨_, rfl⟩
      rw [hm1] at HN1
      rw [hm2] at HN2
      have HM1 := Lib.hid hm1
      have HM2 := Lib.hid hm2
      clear hm1 hm2 HU1' HU2'
      go_loop [15, 16] (fun nv kv => ∃ q : Nat, 32 ≤ q ∧ q ≤ 44 ∧ nv = .string (p.extract 32 q) ∧ kv = .int .i64 (q : Int) ∧ ∀ j, 32 ≤ j → j < q → bt p j ≠ 46) (fun _ kv => 44 - (intOf kv).toNat)
      case atStart => exact ⟨32, by omega, by omega, by rw [ext_nil], rfl, fun j h1 h2 => absurd h2 (by omega)⟩
      case round =>
        obtain ⟨q, hq1, hq2, rfl, rfl, hno⟩ := hrel
        have HNO := Lib.hid hno
        clear hno
        by_cases hq : q < 44
        · have hq' : (q : Int) < 44 := by omega
          have hqp : q < p.size := by omega
          have hqI : (q : Int) < (p.size : Int) := by omega
          have hbt := bt_in hqp
          have HBT := Lib.hid hbt
          clear hbt
          by_cases hd : (p[q].toNat : Int) = 46
          · have hd1 : ((p[q].toNat : Int) != 46) = false := by simp [hd]
            have hd2 : decide ((p[q].toNat : Int) = 46) = true := decide_eq_true hd
            have HSTOP : Hid (q < 44 → bt p q = 46) := fun _ => by rw [HBT.out]; exact hd
            go_wp2_with fail
            obtain ⟨nv, hnv⟩ : ∃ z, p.extract 32 q = z := ⟨_, rfl⟩
            rw [hnv]
            have HPY : Hid (pyOf s k = ⟨p.extract 1 13, nv, m1, m2⟩) := by
              unfold Hid
              have := pyOf_at (m := q - 32) HPL.out hk45 HL.out (by omega) (fun j hj => HNO.out (32 + j) (by omega) (by omega)) (fun hj => by rw [show 32 + (q - 32) = q by omega]; exact HSTOP.out (by omega))
              rw [show 32 + (q - 32) = q by omega, hnv, HM1.out, HM2.out] at this
              exact this
            clear hnv HNO HSTOP hp45
            have hwB : w.heap.size + 1 ≤ wr.heap.size := HO.out.lt
            go_wp2_with fail
            go_region_held3 (fun _ => True) (trivial)
              ((first
                | (go_at_call_of 34 (Value.string (p.extract 13 26)); refine (HN1.out _).mono ?_; rintro e w' ⟨rfl, h'⟩; subst w')
                | (go_at_call_of 34 (Value.string (p.extract 26 32)); refine (HN2.out _).mono ?_; rintro e w' ⟨rfl, h'⟩; subst w')
                | (refine step_appP _ rfl (.tmp 80) (.tmp 91) rfl (w.heap.size + 1) (.slice xa n xc) (lnsOf s n) (by rfl) (by first | exact HGP.out.alloc _ | exact GrowP.alloc (w := wr.drew) HGP.out _) wr.heap.size 1 ⟨p.extract 1 13, nv, m1, m2⟩ (by rfl) (by simp) (by simp) (by simp) (by simp) (by rw [lnsOf_len]; omega) (by simp; omega) ?_
                   intro v9 w9 hg9 hb9
                   have HG9 := Lib.hid hg9
                   have HB9 := Lib.hid hb9
                   clear hg9 hb9)))
            have HG10 : Hid (GrowP w9 (w.heap.size + 1) v9 (lnsOf s (n + 1))) := by unfold Hid; rw [lnsOf_snoc, ← HK.out, HPY.out]; exact HG9.out
            have HB10 : Hid (Below w.heap.size w w9) := ((HB.out.trans ((Below.refl w.heap.size wr).drew)).alloc (by simp; omega) (.cells #[.string (p.extract 1 13), .string nv, .int .i64 m1, .int .i64 m2] 46)).trans (HB9.out.mono (by omega))
            have HO10 : Hid (OB w9 w.heap.size #[.int .i64 0, .int .i64 0] 38) := (HO.out.drew.alloc (.cells #[.string (p.extract 1 13), .string nv, .int .i64 m1, .int .i64 m2] 46)).belowB HB9.out (by omega)
            go_wp2_with fail
            go_roundw
            case rel => exact ⟨n + 1, k + 45, by omega, by have := HK.out; omega, by go_num, by go_num, rfl, HG10.out, HB10.out, HO10.out, HQ2.out, hk45⟩
            case measure => simp [intOf]; omega
          · have hd1 : ((p[q].toNat : Int) != 46) = true := by simpa using hd
            have hd2 : decide ((p[q].toNat : Int) = 46) = false := decide_eq_false hd
            have HNE : Hid (bt p q ≠ 46) := by unfold Hid; rw [HBT.out]; exact hd
            have hsn := ext_snoc p (a := 32) (b := q) hq1
            have hqz : (p.extract 32 q).size + (p.extract q (q + 1)).size ≤ 9223372036854775807 := by simp only [ByteArray.size_extract]; omega
            have hqq : ((q + 1 : Nat) : Int) ≤ (p.size : Int) := by omega
            go_wp2_with fail
            go_round
            case rel => exact ⟨q + 1, by omega, by omega, by first | rfl | rw [hsn], by go_num, fun j h1 h2 => by
              by_cases e : j = q
              · subst e; exact HNE.out
              · exact HNO.out j h1 (by omega)⟩
            case measure => simp [intOf]; omega
        · have hnl : decide ((q : Int) < 44) = false := decide_eq_false (by omega)
          have HSTOP : Hid (q < 44 → bt p q = 46) := fun h => absurd h hq
          go_wp2_with fail
          obtain ⟨nv, hnv⟩ : ∃ z, p.extract 32 q = z := ⟨_, rfl⟩
          rw [hnv]
          have HPY : Hid (pyOf s k = ⟨p.extract 1 13, nv, m1, m2⟩) := by
            unfold Hid
            have := pyOf_at (m := q - 32) HPL.out hk45 HL.out (by omega) (fun j hj => HNO.out (32 + j) (by omega) (by omega)) (fun hj => by rw [show 32 + (q - 32) = q by omega]; exact HSTOP.out (by omega))
            rw [show 32 + (q - 32) = q by omega, hnv, HM1.out, HM2.out] at this
            exact this
          clear hnv HNO HSTOP hp45
          have hwB : w.heap.size + 1 ≤ wr.heap.size := HO.out.lt
          go_wp2_with fail
          go_region_held3 (fun _ => True) (trivial)
            ((first
              | (go_at_call_of 34 (Value.string (p.extract 13 26)); refine (HN1.out _).mono ?_; rintro e w' ⟨rfl, h'⟩; subst w')
              | (go_at_call_of 34 (Value.string (p.extract 26 32)); refine (HN2.out _).mono ?_; rintro e w' ⟨rfl, h'⟩; subst w')
              | (refine step_appP _ rfl (.tmp 80) (.tmp 91) rfl (w.heap.size + 1) (.slice xa n xc) (lnsOf s n) (by rfl) (by first | exact HGP.out.alloc _ | exact GrowP.alloc (w := wr.drew) HGP.out _) wr.heap.size 1 ⟨p.extract 1 13, nv, m1, m2⟩ (by rfl) (by simp) (by simp) (by simp) (by simp) (by rw [lnsOf_len]; omega) (by simp; omega) ?_
                 intro v9 w9 hg9 hb9
                 have HG9 := Lib.hid hg9
                 have HB9 := Lib.hid hb9
                 clear hg9 hb9)))
          have HG10 : Hid (GrowP w9 (w.heap.size + 1) v9 (lnsOf s (n + 1))) := by unfold Hid; rw [lnsOf_snoc, ← HK.out, HPY.out]; exact HG9.out
          have HB10 : Hid (Below w.heap.size w w9) := ((HB.out.trans ((Below.refl w.heap.size wr).drew)).alloc (by simp; omega) (.cells #[.string (p.extract 1 13), .string nv, .int .i64 m1, .int .i64 m2] 46)).trans (HB9.out.mono (by omega))
          have HO10 : Hid (OB w9 w.heap.size #[.int .i64 0, .int .i64 0] 38) := (HO.out.drew.alloc (.cells #[.string (p.extract 1 13), .string nv, .int .i64 m1, .int .i64 m2] 46)).belowB HB9.out (by omega)
          go_wp2_with fail
          go_roundw
          case rel => exact ⟨n + 1, k + 45, by omega, by have := HK.out; omega, by go_num, by go_num, rfl, HG10.out, HB10.out, HO10.out, HQ2.out, hk45⟩
          case measure => simp [intOf]; omega
    · have hnc : n = c := by omega
      subst hnc
      have hnl : decide ((n : Int) < (n : Int)) = false := decide_eq_false (by omega)
      have hzE : (⟨#[69, 48, 48, 48, 48, 48, 48, 48, 48, 48, 48]⟩ : ByteArray).size + (⟨#[10]⟩ : ByteArray).size ≤ 9223372036854775807 := by decide
      obtain ⟨M, hM⟩ : ∃ M : Int, M = (k : Int) + 12 := ⟨_, rfl⟩
      have HMM := Lib.hid hM
      clear hM
      go_wp2_with fail
      refine (lineE_ref s k _ (by omega) (k : Int) M rfl HMM.out).mono ?_
      rintro e w' ⟨h', ⟨h2, rfl⟩ | ⟨o, h2, rfl⟩⟩
      case' inr =>
        subst w'
        obtain ⟨m, hm⟩ : ∃ m : Nat, m = k + o := ⟨_, rfl⟩
        have hmI : (k : Int) + (o : Int) = (m : Int) := by omega
        have HNE : Hid ((1 : Int) ≠ 0) := by unfold Hid; decide
        have HBAD : Hid (BadR s 1 (m : Int)) := by
          refine .inl ⟨rfl, n, m, rfl, .inr HC.out, hc9, ?_⟩
          rw [hm, HK.out]
          exact stop (fun j hj => HQ.out j (by rw [HK.out]; exact hj)) h2.1 (fun j hj => by have := h2.2.1 j hj; rwa [HK.out] at this) (by have := h2.2.2; rwa [HK.out] at this) (show 25 + 45 * n + 12 ≤ 25 + 45 * n + 13 by omega) (fun j hj => fileQ_tail s n j)
        clear h2 hm
        have HO1 := Lib.hid ((HO.out.set 0 (.int .i64 1)).set 1 (.int .i64 (m : Int)))
        obtain ⟨⟨x0, z0⟩, x1, z1⟩ := HO.out.two
        have HB1 := Lib.hid ((HB.out.setCell (p := ⟨w.heap.size, 0, none⟩) (Nat.le_refl _) (.int .i64 1)).setCell (p := ⟨w.heap.size, 1, none⟩) (Nat.le_refl _) (.int .i64 (m : Int)))
        go_wp2_with fail
        have q := HO1.out.two
        have q0 := q.1.1
        have q1 := q.2.1
        clear q x0 x1 z0 z1
        generalize (wr.setCell ⟨w.heap.size, 0, none⟩ (.int .i64 1)).setCell ⟨w.heap.size, 1, none⟩ (.int .i64 (m : Int)) = wf at *
        have HPOST : Hid (RefIs s w (.returned (.tuple #[.int .i64 0, .slice none 0 0, .agg #[.int .i64 1, .int .i64 (m : Int)]])) wf) := ⟨HB1.out, .inr ⟨1, (m : Int), HNE.out, rfl, HBAD.out⟩⟩
        refine bodyPost_ret (v := .tuple #[.int .i64 0, .slice none 0 0, .agg #[.int .i64 1, .int .i64 (m : Int)]]) (by simp [results, Tryd.results22, go_sem, q0, q1]) rfl HPOST.out
      subst w'
      have hk12 := tail_size h2
      have HT12 := Lib.hid h2
      clear h2
      by_cases hend : k + 12 < s.size
      · have hMs : M < (s.size : Int) := by have := HMM.out; omega
        have hMd : decide (M < (s.size : Int)) = true := decide_eq_true hMs
        have HNE : Hid ((1 : Int) ≠ 0) := by unfold Hid; decide
        have HBAD : Hid (BadR s 1 M) := by
          refine .inl ⟨rfl, n, k + 12, by have := HMM.out; omega, .inr HC.out, hc9, ?_⟩
          rw [HK.out]
          exact stop (Q := tailQ s (25 + 45 * n)) (n := 13) (fun j hj => HQ.out j (by rw [HK.out]; exact hj)) (by omega) (fun j hj => by have := HT12.out j hj; rwa [HK.out] at this) (by have := tail_more hend; rwa [HK.out] at this) (Nat.le_refl _) (fun j hj => fileQ_tail s n j)
        have HO1 := Lib.hid ((HO.out.set 0 (.int .i64 1)).set 1 (.int .i64 M))
        obtain ⟨⟨x0, z0⟩, x1, z1⟩ := HO.out.two
        have HB1 := Lib.hid ((HB.out.setCell (p := ⟨w.heap.size, 0, none⟩) (Nat.le_refl _) (.int .i64 1)).setCell (p := ⟨w.heap.size, 1, none⟩) (Nat.le_refl _) (.int .i64 M))
        go_wp2_with fail
        have q := HO1.out.two
        have q0 := q.1.1
        have q1 := q.2.1
        clear q x0 x1 z0 z1
        generalize (wr.setCell ⟨w.heap.size, 0, none⟩ (.int .i64 1)).setCell ⟨w.heap.size, 1, none⟩ (.int .i64 M) = wf at *
        have HPOST : Hid (RefIs s w (.returned (.tuple #[.int .i64 0, .slice none 0 0, .agg #[.int .i64 1, .int .i64 M]])) wf) := ⟨HB1.out, .inr ⟨1, M, HNE.out, rfl, HBAD.out⟩⟩
        refine bodyPost_ret (v := .tuple #[.int .i64 0, .slice none 0 0, .agg #[.int .i64 1, .int .i64 M]]) (by simp [results, Tryd.results22, go_sem, q0, q1]) rfl HPOST.out
      · have hse : s.size = k + 12 := by omega
        have hMd : decide (M < (s.size : Int)) = false := decide_eq_false (by have := HMM.out; omega)
        have HFORM : Hid (Form s n) := by
          refine ⟨HC.out, hc9, fun j hj => ?_, by rw [hse, HK.out]⟩
          by_cases e : j < k
          · exact HQ.out j e
          · have := fileQ_tail s n (j - k)
            rw [← HK.out, show k + (j - k) = j by omega] at this
            rw [this]
            have hj2 := HK.out
            by_cases e2 : j - k < 12
            · exact HT12.out _ e2
            · rw [show j - k = 12 by omega]
              exact tail_end hse
        clear hse
        have HREF : Hid (refE s n = if dayB dy = true ∧ ¬ 300 < n then (if payE (lnsOf s n) n = 0 then (if sumL (lnsOf s n) = sm ∧ chkN (lnsOf s n) dy n = numT (s.extract (k + 1) (k + 1 + 10)) then 0 else 4) else payE (lnsOf s n) n) else 3) := by
          unfold Hid refE
          rw [HT1.out, HT3.out, ← HK.out]
        have HDG : Hid (∀ j, j < 10 → digB (bt s (k + 1 + j)) = true) := fun j hj => by rw [← tailQ_dig s k j hj]; exact HT12.out _ (by omega)
        cases hd : dayB dy
        · have HNE : Hid ((3 : Int) ≠ 0) := by unfold Hid; decide
          have HBAD : Hid (BadR s 3 0) := .inr ⟨rfl, n, HFORM.out, by rw [HREF.out, if_neg (by rw [hd]; simp)]⟩
          have HO1 := Lib.hid ((HO.out.set 0 (.int .i64 3)).set 1 (.int .i64 0))
          obtain ⟨⟨x0, z0⟩, x1, z1⟩ := HO.out.two
          have HB1 := Lib.hid ((HB.out.setCell (p := ⟨w.heap.size, 0, none⟩) (Nat.le_refl _) (.int .i64 3)).setCell (p := ⟨w.heap.size, 1, none⟩) (Nat.le_refl _) (.int .i64 0))
          go_wp2_with (go_at_call 42; refine (isDay_ref _ _).mono ?_; rintro e w' ⟨rfl, h'⟩; subst w'; rw [hd])
          have q := HO1.out.two
          have q0 := q.1.1
          have q1 := q.2.1
          clear q x0 x1 z0 z1
          generalize (wr.setCell ⟨w.heap.size, 0, none⟩ (.int .i64 3)).setCell ⟨w.heap.size, 1, none⟩ (.int .i64 0) = wf at *
          have HPOST : Hid (RefIs s w (.returned (.tuple #[.int .i64 0, .slice none 0 0, .agg #[.int .i64 3, .int .i64 0]])) wf) := ⟨HB1.out, .inr ⟨3, 0, HNE.out, rfl, HBAD.out⟩⟩
          refine bodyPost_ret (v := .tuple #[.int .i64 0, .slice none 0 0, .agg #[.int .i64 3, .int .i64 0]]) (by simp [results, Tryd.results22, go_sem, q0, q1]) rfl HPOST.out
        · by_cases h3 : 300 < n
          · have h3' : (300 : Int) < (n : Int) := by omega
            have HNE : Hid ((3 : Int) ≠ 0) := by unfold Hid; decide
            have HBAD : Hid (BadR s 3 0) := .inr ⟨rfl, n, HFORM.out, by rw [HREF.out, if_neg (fun z => z.2 h3)]⟩
            have HO1 := Lib.hid ((HO.out.set 0 (.int .i64 3)).set 1 (.int .i64 0))
            obtain ⟨⟨x0, z0⟩, x1, z1⟩ := HO.out.two
            have HB1 := Lib.hid ((HB.out.setCell (p := ⟨w.heap.size, 0, none⟩) (Nat.le_refl _) (.int .i64 3)).setCell (p := ⟨w.heap.size, 1, none⟩) (Nat.le_refl _) (.int .i64 0))
            go_wp2_with (go_at_call 42; refine (isDay_ref _ _).mono ?_; rintro e w' ⟨rfl, h'⟩; subst w'; rw [hd])
            have q := HO1.out.two
            have q0 := q.1.1
            have q1 := q.2.1
            clear q x0 x1 z0 z1
            generalize (wr.setCell ⟨w.heap.size, 0, none⟩ (.int .i64 3)).setCell ⟨w.heap.size, 1, none⟩ (.int .i64 0) = wf at *
            have HPOST : Hid (RefIs s w (.returned (.tuple #[.int .i64 0, .slice none 0 0, .agg #[.int .i64 3, .int .i64 0]])) wf) := ⟨HB1.out, .inr ⟨3, 0, HNE.out, rfl, HBAD.out⟩⟩
            refine bodyPost_ret (v := .tuple #[.int .i64 0, .slice none 0 0, .agg #[.int .i64 3, .int .i64 0]]) (by simp [results, Tryd.results22, go_sem, q0, q1]) rfl HPOST.out
          · have h3' : decide ((300 : Int) < (n : Int)) = false := decide_eq_false (by omega)
            rw [if_pos ⟨hd, h3⟩] at HREF
            have HCM : Hid (CameP wr xa (lnsOf s n)) := by
              obtain ⟨xa2, xc2, hv2, hcm⟩ := HGP.out.came (lnsOf_len s n)
              cases hv2
              exact hcm
            go_wp2_with (first
              | (go_at_call 42; refine (isDay_ref _ _).mono ?_; rintro e w' ⟨rfl, h'⟩; subst w'; rw [hd])
              | (go_at_call 19; refine (checkPayments_ref xa n xc (lnsOf s n) _ HCM.out HFORM.out.fit (lnsOf_len s n) (by omega)).mono ?_; rintro e w2 ⟨rfl, hb2⟩; refine Hid.out ?_))
            replace HB := Lib.hid (HB.out.trans (hb2.mono HB.out.size))
            replace HO := Lib.hid (HO.out.below hb2)
            replace HGP := Lib.hid (HGP.out.below hb2)
            replace HCM := Lib.hid (HCM.out.below hb2)
            have HLL := Lib.hid (lnsOf_len s n)
            by_cases hpe : payE (lnsOf s n) n = 0
            · rw [if_pos hpe] at HREF
              have hpp := pr_parts (day := dy) (l := lnsOf s n) (n := n) (by unfold prE; rw [if_pos hd]; exact hpe)
              have HSUM : Hid (∀ w0, Below w2.heap.size w2 w0 → Calls Tryd.prog 28 #[.slice xa n xc] w0 fun e w' => e = .returned (.int .i64 (sumL (lnsOf s n))) ∧ Below w0.heap.size w0 w') := fun w0 hb => (paySum_ref xa n xc (lnsOf s n) w0 (HCM.out.below hb) HLL.out (by omega) (fun j hj => by
                have := (hpp.2.2 j (by rw [HLL.out] at hj; exact hj)).2.1
                exact ⟨by omega, this.2⟩)).mono fun _ _ h => ⟨h.1, h.2 ▸ Below.refl _ _⟩
              have HCHK := Lib.hid (fun (w0 : World) (hb : Below w2.heap.size w2 w0) => fileCheck_ref dy xa n xc (lnsOf s n) w0 (HCM.out.below hb) HLL.out hpp.2.1 hpp.2.2 hpp.1)
              have HNUM0 : Hid (∀ w0, Calls Tryd.prog 34 #[.string (s.extract (k + 1) (k + 1 + 10))] w0 fun e w' => e = .returned (.int .i64 (numT (s.extract (k + 1) (k + 1 + 10)))) ∧ Below w0.heap.size w0 w') := fun w0 => (numr_any (s := s) (k := k + 1) (n := 10) (by omega) (by omega) HDG.out w0).mono fun _ _ h => ⟨h.1, h.2 ▸ Below.refl _ _⟩
              obtain ⟨u, hu⟩ : ∃ z, s.extract (k + 1) (k + 1 + 10) = z := ⟨_, rfl⟩
              have hu' : s.extract (k + 1) (k + 11) = u := hu
              rw [hu] at HNUM0 HREF
              obtain ⟨S, hS⟩ : ∃ z, sumL (lnsOf s n) = z := ⟨_, rfl⟩
              obtain ⟨X, hX⟩ : ∃ z, chkN (lnsOf s n) dy n = z := ⟨_, rfl⟩
              obtain ⟨Y, hY⟩ : ∃ z, numT u = z := ⟨_, rfl⟩
              rw [hS] at HSUM HREF
              rw [hX] at HCHK HREF
              rw [hY] at HNUM0 HREF
              have HNUM := HNUM0
              rw [hpe]
              have iks : ((k : Int) + 1 ≤ (k : Int) + 11) ∧ (k : Int) + 11 ≤ (s.size : Int) := by omega
              obtain ⟨ik1, ik2⟩ := iks
              clear hS hX hY hu hpp HNUM0 hb2 HCM
              by_cases hs1 : S = sm
              · have a1 : (S != sm) = false := by simp [hs1]
                have a2 : decide (S = sm) = true := decide_eq_true hs1
                by_cases hx1 : X = Y
                · have b1 : (X != Y) = false := by simp [hx1]
                  have b2 : decide (X = Y) = true := decide_eq_true hx1
                  rw [if_pos ⟨hs1, hx1⟩] at HREF
                  clear hs1 hx1
                  refine Lib.hid ?_
                  go_wp2_with fail
                  refine wp_region_quiet_below (by kernel_rfl) (by kernel_rfl) ?_
                  repeat (go_big_quiet_step (first | (go_at_call 28; exact Calls.regrown_of (HSUM.out _ (below_regrown _ _ _))) | (go_at_call 44; exact Calls.regrown_of (HCHK.out _ (below_regrown _ _ _))) | (go_at_call 34; exact Calls.regrown_of (HNUM.out _))))
                  refine wpQuiet_nil ?_
                  intro _ hw'
                  obtain ⟨⟨dq, osq⟩, hw''⟩ := hw'
                  subst hw''
                  replace HB := Lib.hid (HB.out.trans ((below_regrown w2 dq osq).mono HB.out.size))
                  replace HO := Lib.hid (HO.out.below (below_regrown w2 dq osq))
                  replace HGP := Lib.hid (HGP.out.below (below_regrown w2 dq osq))
                  generalize «Sort».grow (redrawn w2 dq) osq = w3 at *
                  have HO1 := Lib.hid ((HO.out.set 0 (.int .i64 0)).set 1 (.int .i64 0))
                  obtain ⟨⟨x0, z0⟩, x1, z1⟩ := HO.out.two
                  have HB1 := Lib.hid ((HB.out.setCell (p := ⟨w.heap.size, 0, none⟩) (Nat.le_refl _) (.int .i64 0)).setCell (p := ⟨w.heap.size, 1, none⟩) (Nat.le_refl _) (.int .i64 0))
                  have HG3 := Lib.hid (((HGP.out.set (Nat.lt_succ_self _) 0 (.int .i64 0)).set (Nat.lt_succ_self _) 1 (.int .i64 0)).mono (Nat.le_succ _))
                  go_wp2_with fail
                  have q := HO1.out.two
                  have q0 := q.1.1
                  have q1 := q.2.1
                  clear q x0 x1 z0 z1
                  generalize (w3.setCell ⟨w.heap.size, 0, none⟩ (.int .i64 0)).setCell ⟨w.heap.size, 1, none⟩ (.int .i64 0) = wf at *
                  have HPOST : Hid (RefIs s w (.returned (.tuple #[.int .i64 dy, .slice xa n xc, .agg #[.int .i64 0, .int .i64 0]])) wf) := ⟨HB1.out, .inl ⟨n, .slice xa n xc, HFORM.out, HREF.out, by rw [HT1.out], HG3.out⟩⟩
                  refine bodyPost_ret (v := .tuple #[.int .i64 dy, .slice xa n xc, .agg #[.int .i64 0, .int .i64 0]]) (by simp [results, Tryd.results22, go_sem, q0, q1]) rfl HPOST.out
                · have b1 : (X != Y) = true := by simpa using hx1
                  have b2 : decide (X = Y) = false := decide_eq_false hx1
                  rw [if_neg (fun z => hx1 z.2)] at HREF
                  have HNE : Hid ((4 : Int) ≠ 0) := by unfold Hid; decide
                  have HBAD : Hid (BadR s 4 0) := .inr ⟨rfl, n, HFORM.out, HREF.out.symm⟩
                  clear hs1 hx1
                  refine Lib.hid ?_
                  go_wp2_with fail
                  refine wp_region_quiet_below (by kernel_rfl) (by kernel_rfl) ?_
                  repeat (go_big_quiet_step (first | (go_at_call 28; exact Calls.regrown_of (HSUM.out _ (below_regrown _ _ _))) | (go_at_call 44; exact Calls.regrown_of (HCHK.out _ (below_regrown _ _ _))) | (go_at_call 34; exact Calls.regrown_of (HNUM.out _))))
                  refine wpQuiet_nil ?_
                  intro _ hw'
                  obtain ⟨⟨dq, osq⟩, hw''⟩ := hw'
                  subst hw''
                  replace HB := Lib.hid (HB.out.trans ((below_regrown w2 dq osq).mono HB.out.size))
                  replace HO := Lib.hid (HO.out.below (below_regrown w2 dq osq))
                  replace HGP := Lib.hid (HGP.out.below (below_regrown w2 dq osq))
                  generalize «Sort».grow (redrawn w2 dq) osq = w3 at *
                  have HO1 := Lib.hid ((HO.out.set 0 (.int .i64 4)).set 1 (.int .i64 0))
                  obtain ⟨⟨x0, z0⟩, x1, z1⟩ := HO.out.two
                  have HB1 := Lib.hid ((HB.out.setCell (p := ⟨w.heap.size, 0, none⟩) (Nat.le_refl _) (.int .i64 4)).setCell (p := ⟨w.heap.size, 1, none⟩) (Nat.le_refl _) (.int .i64 0))
                  go_wp2_with fail
                  have q := HO1.out.two
                  have q0 := q.1.1
                  have q1 := q.2.1
                  clear q x0 x1 z0 z1
                  generalize (w3.setCell ⟨w.heap.size, 0, none⟩ (.int .i64 4)).setCell ⟨w.heap.size, 1, none⟩ (.int .i64 0) = wf at *
                  have HPOST : Hid (RefIs s w (.returned (.tuple #[.int .i64 0, .slice none 0 0, .agg #[.int .i64 4, .int .i64 0]])) wf) := ⟨HB1.out, .inr ⟨4, 0, HNE.out, rfl, HBAD.out⟩⟩
                  refine bodyPost_ret (v := .tuple #[.int .i64 0, .slice none 0 0, .agg #[.int .i64 4, .int .i64 0]]) (by simp [results, Tryd.results22, go_sem, q0, q1]) rfl HPOST.out
              · have a1 : (S != sm) = true := by simpa using hs1
                have a2 : decide (S = sm) = false := decide_eq_false hs1
                rw [if_neg (fun z => hs1 z.1)] at HREF
                have HNE : Hid ((4 : Int) ≠ 0) := by unfold Hid; decide
                have HBAD : Hid (BadR s 4 0) := .inr ⟨rfl, n, HFORM.out, HREF.out.symm⟩
                clear hs1
                refine Lib.hid ?_
                go_wp2_with fail
                refine wp_region_quiet_below (by kernel_rfl) (by kernel_rfl) ?_
                repeat (go_big_quiet_step (first | (go_at_call 28; exact Calls.regrown_of (HSUM.out _ (below_regrown _ _ _))) | (go_at_call 44; exact Calls.regrown_of (HCHK.out _ (below_regrown _ _ _))) | (go_at_call 34; exact Calls.regrown_of (HNUM.out _))))
                refine wpQuiet_nil ?_
                intro _ hw'
                obtain ⟨⟨dq, osq⟩, hw''⟩ := hw'
                subst hw''
                replace HB := Lib.hid (HB.out.trans ((below_regrown w2 dq osq).mono HB.out.size))
                replace HO := Lib.hid (HO.out.below (below_regrown w2 dq osq))
                replace HGP := Lib.hid (HGP.out.below (below_regrown w2 dq osq))
                generalize «Sort».grow (redrawn w2 dq) osq = w3 at *
                have HO1 := Lib.hid ((HO.out.set 0 (.int .i64 4)).set 1 (.int .i64 0))
                obtain ⟨⟨x0, z0⟩, x1, z1⟩ := HO.out.two
                have HB1 := Lib.hid ((HB.out.setCell (p := ⟨w.heap.size, 0, none⟩) (Nat.le_refl _) (.int .i64 4)).setCell (p := ⟨w.heap.size, 1, none⟩) (Nat.le_refl _) (.int .i64 0))
                go_wp2_with fail
                have q := HO1.out.two
                have q0 := q.1.1
                have q1 := q.2.1
                clear q x0 x1 z0 z1
                generalize (w3.setCell ⟨w.heap.size, 0, none⟩ (.int .i64 4)).setCell ⟨w.heap.size, 1, none⟩ (.int .i64 0) = wf at *
                have HPOST : Hid (RefIs s w (.returned (.tuple #[.int .i64 0, .slice none 0 0, .agg #[.int .i64 4, .int .i64 0]])) wf) := ⟨HB1.out, .inr ⟨4, 0, HNE.out, rfl, HBAD.out⟩⟩
                refine bodyPost_ret (v := .tuple #[.int .i64 0, .slice none 0 0, .agg #[.int .i64 4, .int .i64 0]]) (by simp [results, Tryd.results22, go_sem, q0, q1]) rfl HPOST.out
            · rw [if_neg hpe] at HREF
              have a1 : (payE (lnsOf s n) n == 0) = false := by simpa using hpe
              have a2 : decide (payE (lnsOf s n) n = 0) = false := decide_eq_false hpe
              have a3 : (payE (lnsOf s n) n != 0) = true := by simpa using hpe
              obtain ⟨pe, hpe2⟩ : ∃ z, payE (lnsOf s n) n = z := ⟨_, rfl⟩
              rw [hpe2] at HREF hpe a1 a2 a3 ⊢
              have HNE : Hid (pe ≠ 0) := hpe
              have HBAD : Hid (BadR s pe 0) := .inr ⟨rfl, n, HFORM.out, HREF.out.symm⟩
              have HSUM := Lib.hid trivial
              clear hpe hpe2 hb2
              refine Lib.hid ?_
              go_wp2_with fail
              refine wp_region_quiet_below (by kernel_rfl) (by kernel_rfl) ?_
              repeat (go_big_quiet_step (fail))
              refine wpQuiet_nil ?_
              intro _ hw'
              obtain ⟨⟨dq, osq⟩, hw''⟩ := hw'
              subst hw''
              replace HB := Lib.hid (HB.out.trans ((below_regrown w2 dq osq).mono HB.out.size))
              replace HO := Lib.hid (HO.out.below (below_regrown w2 dq osq))
              generalize «Sort».grow (redrawn w2 dq) osq = w3 at *
              have HO1 := Lib.hid ((HO.out.set 0 (.int .i64 pe)).set 1 (.int .i64 0))
              obtain ⟨⟨x0, z0⟩, x1, z1⟩ := HO.out.two
              have HB1 := Lib.hid ((HB.out.setCell (p := ⟨w.heap.size, 0, none⟩) (Nat.le_refl _) (.int .i64 pe)).setCell (p := ⟨w.heap.size, 1, none⟩) (Nat.le_refl _) (.int .i64 0))
              go_wp2_with fail
              have q := HO1.out.two
              have q0 := q.1.1
              have q1 := q.2.1
              clear q x0 x1 z0 z1
              generalize (w3.setCell ⟨w.heap.size, 0, none⟩ (.int .i64 pe)).setCell ⟨w.heap.size, 1, none⟩ (.int .i64 0) = wf at *
              have HPOST : Hid (RefIs s w (.returned (.tuple #[.int .i64 0, .slice none 0 0, .agg #[.int .i64 pe, .int .i64 0]])) wf) := ⟨HB1.out, .inr ⟨pe, 0, HNE.out, rfl, HBAD.out⟩⟩
              refine bodyPost_ret (v := .tuple #[.int .i64 0, .slice none 0 0, .agg #[.int .i64 pe, .int .i64 0]]) (by simp [results, Tryd.results22, go_sem, q0, q1]) rfl HPOST.out
end Go.Proofs.YtdfgkngfpedgdaaDoor
