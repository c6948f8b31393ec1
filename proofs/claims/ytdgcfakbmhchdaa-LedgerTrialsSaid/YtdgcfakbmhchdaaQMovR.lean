/-
  Promise Q3: the walk of the reference's MovedOf.
-/
import Derived.Test.YtdgcfakbmhchdaaQMov
namespace Go.Proofs.Ytdgcfakbmhchdaa
open Go.RowKit

theorem inN_nil (s : ByteArray) : inN s [] = 0 := rfl
theorem outN_nil (s : ByteArray) : outN s [] = 0 := rfl
set_option maxRecDepth 100000 in
set_option maxHeartbeats 4000000 in
theorem movedOf_ref (a : Option Addr) (n cap : Nat) (l : List En) (s : ByteArray) (f t : Int) (w : World) (hc : CameE w a l) (hn : l.length = n) (h0 : jrE l = 0) :
    Calls Try.prog 23 #[.slice a n cap, .string s, .int .i64 f, .int .i64 t] w fun e w' => e = .returned (.tuple #[.int .i64 (inN s (pst l f t)), .int .i64 (outN s (pst l f t))]) ∧ Go.RowKit.Below w.heap.size w w' := by
  have HW := Lib.hid (hc.wide hn)
  have HN := Lib.hid hn
  have hn100 : n ≤ 100 := by rw [← hn]; exact (jrE_ok h0).1
  have H20 : Hid (∀ i, i < n → (enth l i).ps.length ≤ 20) := fun i hi => (enE_ok ((jrE_ok h0).2.1 _ (enth_mem (by omega)))).2.2.1
  have HBD : Hid (∀ (m : List Am), (∀ r ∈ m, ∃ e ∈ l, r ∈ e.ps) → m.length ≤ 2000 → (0 ≤ inN s m ∧ inN s m ≤ 2000000000000000 ∧ 0 ≤ outN s m ∧ outN s m ≤ 2000000000000000)) := fun m hm hl => by
    have := io_bd (s := s) m (fun r hr => by
      obtain ⟨e, he, hx⟩ := hm r hr
      have h2 := List.all_eq_true.1 (enE_ok ((jrE_ok h0).2.1 e he)).2.2.2.2.1 _ hx
      unfold asB someB at h2
      simp at h2
      exact h2.2)
    omega
  have HMN : Hid (∀ i, i < n → ∀ k, k < (enth l i).ps.length → monB (anth (enth l i).ps k).mon = true) := fun i hi k hk => by
    have h2 := List.all_eq_true.1 (enE_ok ((jrE_ok h0).2.1 _ (enth_mem (l := l) (j := i) (by omega)))).2.2.2.2.1 _ (anth_mem hk)
    unfold asB someB at h2
    simp at h2
    exact h2.2
  have HPB : Hid (∀ i, i < n → ((pst (l.take i) f t).length + 20 ≤ 2000)) := fun i hi => by
    have key : ∀ m : List En, (∀ r ∈ m, r.ps.length ≤ 20) → (pst m f t).length ≤ 20 * m.length := by
      intro m
      induction m with
      | nil => intro _; simp [pst]
      | cons r m ih =>
        intro hm
        have h1 := ih fun x hx => hm x (by simp [hx])
        have h2 := hm r (by simp)
        unfold pst at *
        rw [List.filter_cons]
        split
        · rw [List.flatMap_cons, List.length_append, List.length_cons]; omega
        · rw [List.length_cons]; omega
    have h1 := key (l.take i) fun r hr => (enE_ok ((jrE_ok h0).2.1 r (List.mem_of_mem_take hr))).2.2.1
    rw [List.length_take] at h1
    omega
  clear hc hn h0
  go_enter Try.func23, Try.ntmps23
  go_wp2_with fail
  go_loopw [10, 11, 12] (fun vi vo ii wr => ∃ i : Nat, i ≤ n ∧ vi = .int .i64 (inN s (pst (l.take i) f t)) ∧ vo = .int .i64 (outN s (pst (l.take i) f t)) ∧ ii = .int .i64 i ∧ Go.RowKit.Below w.heap.size w wr) (fun _ _ ii _ => n - (intOf ii).toNat)
  case atStart => exact ⟨0, Nat.zero_le _, rfl, rfl, rfl, Below.refl _ _⟩
  case round =>
    obtain ⟨i, hi, rfl, rfl, rfl, hb⟩ := hrel
    have HB := Lib.hid hb
    clear hb
    by_cases hlt : i < n
    · have hlt' : (i : Int) < (n : Int) := by omega
      obtain ⟨b, off, rfl, hcell⟩ := HW.out (by omega)
      obtain ⟨ax, cx, hax⟩ := hcell i hlt
      have HAX := Lib.hid hax
      clear hcell hax
      have HST := Lib.hid (pst_step (f := f) (t := t) (l := l) (k := i) (by rw [HN.out]; exact hlt))
      have HDI : Hid (dayIn f t (enth l i) = (decide (f ≤ (enth l i).day) && decide ((enth l i).day ≤ t))) := rfl
      have HM20 := Lib.hid (H20.out i hlt)
      have HPL := Lib.hid (HPB.out i hlt)
      have HMO1 := Lib.hid (HMN.out i hlt)
      have HSUB : Hid (∀ r ∈ pst (l.take i) f t, ∃ e ∈ l, r ∈ e.ps) := fun r hr => by
        obtain ⟨e, he, hx⟩ := pst_mem hr
        exact ⟨e, List.mem_of_mem_take he, hx⟩
      have HSUB2 : Hid (∀ r ∈ (enth l i).ps, ∃ e ∈ l, r ∈ e.ps) := fun r hr => ⟨_, enth_mem (by rw [HN.out]; exact hlt), hr⟩
      obtain ⟨pre, hpre⟩ : ∃ z, pst (l.take i) f t = z := ⟨_, rfl⟩
      obtain ⟨dy, hdy⟩ : ∃ z, (enth l i).day = z := ⟨_, rfl⟩
      obtain ⟨ps, hps⟩ : ∃ z, (enth l i).ps = z := ⟨_, rfl⟩
      rw [hpre] at HST HPL HSUB ⊢
      rw [hdy] at HDI HAX
      rw [hps] at HST HAX HM20 HMO1 HSUB2
      obtain ⟨m, hm⟩ : ∃ z, ps.length = z := ⟨_, rfl⟩
      rw [hm] at HAX HM20 HMO1
      have HLM := Lib.hid hm
      have hm20 := HM20.out
      clear hpre hdy hps hm
      go_wp2_with fail
      generalize wr = wq at *
      go_loopw [10, 11, 13] (fun vi vo kk wv => ∃ k : Nat, k ≤ m ∧ vi = .int .i64 (inN s (pre ++ (if dayIn f t (enth l i) = true then ps.take k else []))) ∧ vo = .int .i64 (outN s (pre ++ (if dayIn f t (enth l i) = true then ps.take k else []))) ∧ kk = .int .i64 k ∧ Go.RowKit.Below w.heap.size w wv) (fun _ _ kk _ => m - (intOf kk).toNat)
      case atStart => exact ⟨0, Nat.zero_le _, by simp, by simp, rfl, HB.out⟩
      case round =>
        clear HB
        obtain ⟨k, hk, rfl, rfl, rfl, hb⟩ := hrel
        have HB := Lib.hid hb
        clear hb
        obtain ⟨x0, x1, hps1⟩ := HAX.out wr HB.out
        have HPS := Lib.hid hps1
        clear hps1
        by_cases hkm : k < m
        · have hkm' : (k : Int) < (m : Int) := by omega
          obtain ⟨b2, o2, rfl, hc2⟩ := HPS.out.1.open HLM.out (by omega)
          obtain ⟨y0, y1⟩ := hc2 wr (Below.refl _ _) k hkm
          clear hc2
          have hmo := of_decide_eq_true (HMO1.out k hkm)
          have HTK : Hid (ps.take (k + 1) = ps.take k ++ [anth ps k]) := atake_snoc (by rw [HLM.out]; exact hkm)
          have HMI0 : Hid (movI s (anth ps k) = if ((anth ps k).name.toList == s.toList) = true then (if 0 < (anth ps k).mon then (anth ps k).mon else 0) else 0) := rfl
          have HMO0 : Hid (movO s (anth ps k) = if ((anth ps k).name.toList == s.toList) = true then (if 0 < (anth ps k).mon then 0 else -(anth ps k).mon) else 0) := rfl
          have HISN := Lib.hid (fun l => inN_snoc s l (anth ps k))
          have HOSN := Lib.hid (fun l => outN_snoc s l (anth ps k))
          obtain ⟨nm, hnm⟩ : ∃ z, (anth ps k).name = z := ⟨_, rfl⟩
          obtain ⟨mo, hmon⟩ : ∃ z, (anth ps k).mon = z := ⟨_, rfl⟩
          rw [hnm] at y0 HMI0 HMO0
          rw [hmon] at y1 HMI0 HMO0 hmo
          clear hnm hmon
          have HBU := Lib.hid (kbelow_box wr (.cells #[.string nm, .int .i64 mo] 60))
          have HB2 := Lib.hid (HB.out.trans (HBU.out.mono HB.out.size))
          obtain ⟨z0, _, _⟩ := HAX.out _ HB2.out
          cases hdi : dayIn f t (enth l i)
          · have hnt : ∀ z : List Am, (if (false : Bool) = true then z else []) = [] := fun z => if_neg (by decide)
            have HI1 : Hid (inN s (pre ++ (if (false : Bool) = true then ps.take (k + 1) else [])) = inN s (pre ++ (if (false : Bool) = true then ps.take k else []))) := by unfold Hid; rw [hnt, hnt]
            have HO1 : Hid (outN s (pre ++ (if (false : Bool) = true then ps.take (k + 1) else [])) = outN s (pre ++ (if (false : Bool) = true then ps.take k else []))) := by unfold Hid; rw [hnt, hnt]
            have HOUT : Hid (dy < f ∨ t < dy) := by
              unfold Hid
              have := HDI.out
              rw [hdi] at this
              by_cases q1 : f ≤ dy
              · by_cases q2 : dy ≤ t
                · rw [decide_eq_true q1, decide_eq_true q2] at this; cases this
                · omega
              · omega
            clear hnt
            obtain ⟨vi, hvi⟩ : ∃ z, inN s (pre ++ (if (false : Bool) = true then ps.take k else [])) = z := ⟨_, rfl⟩
            obtain ⟨vo, hvo⟩ : ∃ z, outN s (pre ++ (if (false : Bool) = true then ps.take k else [])) = z := ⟨_, rfl⟩
            rw [hvi] at HI1
            rw [hvo] at HO1
            rw [hvi, hvo]
            clear hvi hvo
            by_cases hdf : dy < f
            · go_wp2_with fail
              go_roundw
              case rel => exact ⟨k + 1, by omega, by have q := HI1.out; simp at q; simp [q], by have q := HO1.out; simp at q; simp [q], by go_num, HB2.out⟩
              case measure => simp [intOf]; omega
            · have hdf' : decide (dy < f) = false := decide_eq_false hdf
              have hdt : t < dy := by have := HOUT.out; omega
              go_wp2_with fail
              go_roundw
              case rel => exact ⟨k + 1, by omega, by have q := HI1.out; simp at q; simp [q], by have q := HO1.out; simp at q; simp [q], by go_num, HB2.out⟩
              case measure => simp [intOf]; omega
          · have hyt : ∀ z : List Am, (if (true : Bool) = true then z else []) = z := fun z => if_pos rfl
            have hdd := HDI.out
            rw [hdi] at hdd
            have hf1 : f ≤ dy := by
              by_cases q1 : f ≤ dy
              · exact q1
              · rw [decide_eq_false q1] at hdd; cases hdd
            have ht1 : dy ≤ t := by
              by_cases q1 : dy ≤ t
              · exact q1
              · rw [decide_eq_false q1] at hdd; simp at hdd
            have hdf' : decide (dy < f) = false := decide_eq_false (by omega)
            have hdt' : decide (t < dy) = false := decide_eq_false (by omega)
            have HI1 : Hid (inN s (pre ++ (if (true : Bool) = true then ps.take (k + 1) else [])) = inN s (pre ++ (if (true : Bool) = true then ps.take k else [])) + movI s (anth ps k)) := by unfold Hid; rw [hyt, hyt, HTK.out, ← List.append_assoc]; exact HISN.out _
            have HO1 : Hid (outN s (pre ++ (if (true : Bool) = true then ps.take (k + 1) else [])) = outN s (pre ++ (if (true : Bool) = true then ps.take k else [])) + movO s (anth ps k)) := by unfold Hid; rw [hyt, hyt, HTK.out, ← List.append_assoc]; exact HOSN.out _
            have HBB := HBD.out (pre ++ (if (true : Bool) = true then ps.take k else [])) (fun r hr => by
              rw [hyt] at hr
              rcases List.mem_append.1 hr with q | q
              · exact HSUB.out r q
              · exact HSUB2.out r (List.mem_of_mem_take q)) (by
              rw [hyt, List.length_append, List.length_take, HLM.out]
              have := HPL.out
              omega)
            clear hyt hdd
            obtain ⟨vi, hvi⟩ : ∃ z, inN s (pre ++ (if (true : Bool) = true then ps.take k else [])) = z := ⟨_, rfl⟩
            obtain ⟨vo, hvo⟩ : ∃ z, outN s (pre ++ (if (true : Bool) = true then ps.take k else [])) = z := ⟨_, rfl⟩
            rw [hvi] at HI1 HBB
            rw [hvo] at HO1 HBB
            rw [hvi, hvo]
            clear hvi hvo
            obtain ⟨hi0, hi1, ho0, ho1⟩ := HBB
            cases hq : (nm.toList == s.toList)
            · have hq' : (nm.toList != s.toList) = true := by rw [bne, hq]; rfl
              rw [hq, if_neg (by decide)] at HMI0 HMO0
              rw [HMI0.out, Int.add_zero] at HI1
              rw [HMO0.out, Int.add_zero] at HO1
              go_wp2_with fail
              go_roundw
              case rel => exact ⟨k + 1, by omega, by have q := HI1.out; simp at q; simp [q], by have q := HO1.out; simp at q; simp [q], by go_num, HB2.out⟩
              case measure => simp [intOf]; omega
            · have hq' : (nm.toList != s.toList) = false := by rw [bne, hq]; rfl
              rw [hq, if_pos rfl] at HMI0 HMO0
              by_cases hp : 0 < mo
              · rw [if_pos hp] at HMI0 HMO0
                rw [HMI0.out] at HI1
                rw [HMO0.out, Int.add_zero] at HO1
                go_wp2_with fail
                go_roundw
                case rel => exact ⟨k + 1, by omega, by have q := HI1.out; simp at q; simp [q], by have q := HO1.out; simp at q; simp [q], by go_num, HB2.out⟩
                case measure => simp [intOf]; omega
              · have hp' : decide (0 < mo) = false := decide_eq_false hp
                rw [if_neg hp] at HMI0 HMO0
                rw [HMI0.out, Int.add_zero] at HI1
                rw [HMO0.out, show vo + -mo = vo - mo from by omega] at HO1
                go_wp2_with fail
                go_roundw
                case rel => exact ⟨k + 1, by omega, by have q := HI1.out; simp at q; simp [q], by have q := HO1.out; simp at q; simp [q], by go_num, HB2.out⟩
                case measure => simp [intOf]; omega
        · have hkn : k = m := by omega
          subst hkn
          have hnl : decide ((k : Int) < (k : Int)) = false := decide_eq_false (by omega)
          have HEND : Hid (pre ++ (if dayIn f t (enth l i) = true then ps.take k else []) = pst (l.take (i + 1)) f t) := by
            unfold Hid
            rw [HST.out, List.take_of_length_le (by rw [HLM.out]; exact Nat.le_refl _)]
          rw [HEND.out]
          obtain ⟨vi, hvi⟩ : ∃ z, inN s (pst (l.take (i + 1)) f t) = z := ⟨_, rfl⟩
          obtain ⟨vo, hvo⟩ : ∃ z, outN s (pst (l.take (i + 1)) f t) = z := ⟨_, rfl⟩
          have HVI := Lib.hid hvi
          have HVO := Lib.hid hvo
          rw [hvi, hvo]
          clear hvi hvo HEND
          go_wp2_with fail
          go_roundw
          case rel => exact ⟨i + 1, by omega, by rw [HVI.out], by rw [HVO.out], by go_num, HB.out⟩
          case measure => simp [intOf]; omega
    · have hkn : i = n := by omega
      subst hkn
      have hnl : decide ((i : Int) < (i : Int)) = false := decide_eq_false (by omega)
      have HTA : Hid (l.take i = l) := List.take_of_length_le (by rw [HN.out]; exact Nat.le_refl _)
      rw [HTA.out]
      go_wp2_with fail
      go_ret2
      exact ⟨rfl, HB.out⟩
end Go.Proofs.Ytdgcfakbmhchdaa
