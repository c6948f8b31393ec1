/-
  Promises M2, M4: the walk of together.
-/
import Derived.Test.YtfamnlaignjhkaaOTog
namespace Go.Proofs.Ytfamnlaignjhkaa
open Go.RowKit Go.Sort Go.Maps Go.WideMaps

set_option maxRecDepth 100000 in
set_option maxHeartbeats 4000000 in
theorem together_any (b : Nat) (Ls : List (List Tt)) (m : Nat) (w : World) (h : LsAt w b Ls) (hm : Ls.length = m) (hm2 : m ≤ 2) (hok : ∀ t ∈ Ls.flatten, OkT t) (hlen : Ls.flatten.length ≤ 800) :
    Calls Try.prog 34 #[.slice (some ⟨b, 0, none⟩) m m] w fun e w' => ∃ (v : Value) (er : Int), e = .returned (.tuple #[v, .int .i64 er]) ∧ ListRet (sumsOf Ls.flatten) w' v er ∧ Go.RowKit.Below w.heap.size w w' := by
  have HLS := Lib.hid h
  have HM := Lib.hid hm
  have HOK := Lib.hid hok
  have HLE := Lib.hid hlen
  have hmm := make_sums
  clear h hm hok hlen
  go_enter Try.func34, Try.ntmps34
  go_wp2_with fail
  clear hmm
  go_loopw [12] (fun i wr => ∃ k : Nat, k ≤ m ∧ i = .int .i64 k ∧ SumIs wr w.heap.size (Ls.take k).flatten.length (sumsOf (Ls.take k).flatten) ∧ Go.RowKit.Below w.heap.size w wr) (fun i _ => m - (intOf i).toNat)
  case atStart => exact ⟨0, Nat.zero_le _, rfl, SumIs.made w, (Below.refl _ _).alloc (Nat.le_refl _) _⟩
  case round =>
    obtain ⟨k, hk, rfl, hsum, hb⟩ := hrel
    have HS := Lib.hid hsum
    have HB := Lib.hid hb
    clear hsum hb
    by_cases hlt : k < m
    · have hlt' : (k : Int) < (m : Int) := by omega
      obtain ⟨a, c, hc0, hc2⟩ := HLS.out.2 k (by rw [HM.out]; exact hlt)
      have hc1 := (HB.out.cell (p := ⟨b, k, none⟩) HLS.out.1).trans hc0
      clear hc0
      have HFT := Lib.hid (flat_take (Ls := Ls) (j := k) (by rw [HM.out]; exact hlt))
      have HSUB : Hid (∃ R, Ls.flatten = (Ls.take k).flatten ++ Ls.getD k [] ++ R) := by
        refine ⟨(Ls.drop (k + 1)).flatten, ?_⟩
        rw [← HFT.out, ← List.flatten_append, List.take_append_drop]
      obtain ⟨L, hL⟩ : ∃ L, Ls.getD k [] = L := ⟨_, rfl⟩
      rw [hL] at hc1 hc2 HFT HSUB
      obtain ⟨pre, hpre⟩ : ∃ p, (Ls.take k).flatten = p := ⟨_, rfl⟩
      rw [hpre] at HS HFT HSUB
      clear hL hpre
      obtain ⟨n, hn⟩ : ∃ n, L.length = n := ⟨_, rfl⟩
      rw [hn] at hc1
      have HN := Lib.hid hn
      have HO := Lib.hid (fun h0 => hc2.open hn h0)
      clear hc2 hn
      have HOK2 : Hid (∀ t ∈ pre ++ L, OkT t) := fun t ht => by
        obtain ⟨R, hR⟩ := HSUB.out
        exact HOK.out t (by rw [hR]; exact List.mem_append_left _ ht)
      have HLE2 : Hid (pre.length + n ≤ 800) := by
        obtain ⟨R, hR⟩ := HSUB.out
        have := HLE.out
        rw [hR] at this
        simp only [List.length_append] at this
        have := HN.out
        unfold Hid
        omega
      clear HSUB
      have hn63 : n ≤ 9223372036854775807 := by have := HLE2.out; omega
      go_wp2_with fail
      clear hc1
      generalize hW : wr = W at *
      clear hW
      go_loopw [18] (fun i wr => ∃ j : Nat, j ≤ n ∧ i = .int .i64 j ∧ SumIs wr w.heap.size (pre.length + j) (sumsOf (pre ++ L.take j)) ∧ Go.RowKit.Below w.heap.size w wr) (fun i _ => n - (intOf i).toNat)
      case atStart => exact ⟨0, Nat.zero_le _, rfl, by simpa using HS.out, HB.out⟩
      case round =>
        clear HS HB
        obtain ⟨j, hj, rfl, hsum, hb⟩ := hrel
        have HS := Lib.hid hsum
        have HB := Lib.hid hb
        clear hsum hb
        by_cases hjn : j < n
        · have hjn' : (j : Int) < (n : Int) := by omega
          obtain ⟨bl, off, rfl, hcell⟩ := HO.out (by omega)
          obtain ⟨x0, x1, x2, x3⟩ := hcell _ HB.out j hjn
          clear hcell
          have HTS := Lib.hid (otake_snoc (l := L) (k := j) (by rw [HN.out]; exact hjn))
          have HOT : Hid (OkT (onth L j)) := Lib.hid (HOK2.out _ (List.mem_append_right _ (onth_mem (by rw [HN.out]; exact hjn))))
          have HBD := Lib.hid (sumK_bound (keyT (onth L j)) (L := pre ++ L.take j) (fun x hx => HOK2.out x (by
            rcases List.mem_append.1 hx with h | h
            · exact List.mem_append_left _ h
            · exact List.mem_append_right _ (List.mem_of_mem_take h))))
          have HLN : Hid ((pre ++ L.take j).length ≤ 800) := Lib.hid (by rw [List.length_append, List.length_take]; have := HLE2.out; have := HN.out; omega)
          rw [← sumsOf_getD] at HBD
          have HSN := Lib.hid (sumsOf_snoc (pre ++ L.take j) (onth L j))
          rw [List.append_assoc, ← HTS.out] at HSN
          have HSE : Hid (stepG (sumsOf (pre ++ L.take j)) (onth L j) = putG (sumsOf (pre ++ L.take j)) (keyT (onth L j)) ((sumsOf (pre ++ L.take j) (keyT (onth L j))).getD 0 + (onth L j).mon)) := rfl
          obtain ⟨gs, hgs⟩ : ∃ g, sumsOf (pre ++ L.take j) = g := ⟨_, rfl⟩
          rw [hgs] at HS HBD HSN HSE
          have HWF := Lib.hid HOT.out.wf
          have HMO := Lib.hid HOT.out
          obtain ⟨t, ht⟩ : ∃ t, onth L j = t := ⟨_, rfl⟩
          rw [ht] at x0 x1 x2 x3 HBD HSN HSE HWF HMO
          clear hgs ht HTS HOT
          obtain ⟨cs, hcs⟩ : ∃ c, (gs (keyT t)).getD 0 = c := ⟨_, rfl⟩
          rw [hcs] at HBD HSE
          have hsmall : -900000000000000 ≤ cs + t.mon ∧ cs + t.mon ≤ 900000000000000 := by
            have h1 := HBD.out
            have h2 := HLN.out
            obtain ⟨_, _, _, _, h5, h6, _⟩ := HMO.out
            omega
          have hwrap : IntKind.i64.wrap (cs + t.mon) = cs + t.mon := IntWalk.i64_in _ (by omega)
          obtain ⟨hlook, v0, st, W2, W3, hent, hsto, hsum3, hgr3⟩ := sum_step (w := (wr.alloc (.cells #[.int .i64 t.per, .string t.nam, .int .i64 t.yr, .int .i64 t.mon] 50)).drew) (HS.out.below (obelow_box wr _).drew) (keyT t) HWF.out (by unfold maxLen; have := HLE2.out; omega) (cs + t.mon) (WalkArith.wf_i64 (by omega))
          obtain ⟨v1, W2', hent', hlook2, hg2⟩ := entry_look (w := (wr.alloc (.cells #[.int .i64 t.per, .string t.nam, .int .i64 t.yr, .int .i64 t.mon] 50)).drew) (HS.out.below (obelow_box wr _).drew) (keyT t) HWF.out (by unfold maxLen; have := HLE2.out; omega)
          rw [hent] at hent'
          injection hent' with _ hw2
          subst hw2
          rw [hcs] at hlook hlook2
          have hne : some wr.heap.size ≠ some w.heap.size := fun e => by have := HS.out.lt; injection e with e; omega
          have k0 : W2.cell? ⟨wr.heap.size, 0, none⟩ = some (.int .i64 t.per) := hg2.cell (by show (wr.alloc _).cell? _ = _; simp) hne
          have k1 : W2.cell? ⟨wr.heap.size, 1, none⟩ = some (.string t.nam) := hg2.cell (by show (wr.alloc _).cell? _ = _; simp) hne
          have k2 : W2.cell? ⟨wr.heap.size, 2, none⟩ = some (.int .i64 t.yr) := hg2.cell (by show (wr.alloc _).cell? _ = _; simp) hne
          have k3 : W2.cell? ⟨wr.heap.size, 3, none⟩ = some (.int .i64 t.mon) := hg2.cell (by show (wr.alloc _).cell? _ = _; simp) hne
          clear hg2 hne
          unfold kyV keyT at hlook hlook2 hent
          unfold goInt at hent hsto
          simp only at hlook hlook2 hent
          rw [← HSE.out, ← HSN.out] at hsum3
          have HS3 := Lib.hid hsum3
          have HB3 : Hid (Go.RowKit.Below w.heap.size w W3) := Lib.hid ((HB.out.alloc HB.out.size _).drew.grown hgr3 (Nat.le_trans HB.out.size (by show _ ≤ (wr.alloc _).heap.size; simp)) (fun r hr => by cases hr; exact Nat.le_refl _))
          clear hsum3 hgr3 hcs hsmall
          go_wp2_with fail
          go_region
          go_wp2_with fail
          go_roundw
          case rel => exact ⟨j + 1, by omega, by go_num, HS3.out, HB3.out⟩
          case measure => simp [intOf]; omega
        · have hje : j = n := by omega
          subst hje
          have HTL : Hid (pre ++ L.take j = (Ls.take (k + 1)).flatten) := Lib.hid (by rw [HFT.out, ← HN.out, List.take_length])
          have HPL : Hid (pre.length + j = (Ls.take (k + 1)).flatten.length) := Lib.hid (by rw [HFT.out, List.length_append, HN.out])
          rw [HTL.out, HPL.out] at HS
          go_wp2_with fail
          go_roundw
          case rel => exact ⟨k + 1, by omega, by go_num, HS.out, HB.out⟩
          case measure => simp [intOf]; omega
    · have hkm : k = m := by omega
      subst hkm
      have HFL : Hid ((Ls.take k).flatten = Ls.flatten) := Lib.hid (by rw [← HM.out, List.take_length])
      rw [HFL.out] at HS
      go_wp2_with fail
      refine (listed_any w.heap.size _ _ _ HS.out (by have := HLE.out; omega)).mono ?_
      rintro e w1 ⟨v, er, rfl, hret, hb1⟩
      have HR := Lib.hid hret
      have HB1 := Lib.hid (HB.out.trans (hb1.mono HB.out.size))
      clear hret hb1
      go_wp2_with fail
      go_ret2
      exact ⟨_, _, rfl, HR.out, HB1.out⟩
end Go.Proofs.Ytfamnlaignjhkaa
