/-
  Promise Q2: the walk of Post.
-/
import Derived.Test.YtdgcfakbmhchdaaQPost
namespace Go.Proofs.Ytdgcfakbmhchdaa
open Go.RowKit

theorem make_ens (n : Nat) (h : n ≤ 100) (w : World) : ∃ w', (Instr.makeSlice 22 (.int .i64 0) (.int .i64 ((n : Int) + 1))).run Try.prog w = .ok (.slice (some ⟨w.heap.size, 0, none⟩) 0 (n + 1)) w' ∧ GrowE w' w.heap.size (.slice (some ⟨w.heap.size, 0, none⟩) 0 (n + 1)) [] ∧ Go.RowKit.Below w.heap.size w w' := by
  obtain ⟨i0, hi, hz0, hz1, hz2⟩ := info_parts infoEn
  obtain ⟨w', h1, h2, h3⟩ := run_make_own (P := Try.prog) w w.heap.size 22 29 i0 _ 2 Try.underlying22 hi hz0 hz1 .i64 .i64 (n + 1) (by rw [hz2]; omega) (by unfold maxLen; omega) (Nat.le_refl _)
  have e : ((n + 1 : Nat) : Int) = (n : Int) + 1 := by omega
  rw [e] at h1
  exact ⟨w', h1, ⟨[], h2, fun j hj => by simp at hj⟩, (Below.refl _ w).grown h3 (Nat.le_refl _) (fun k hk => by cases hk)⟩
def postE (l : List En) (e : En) : Int := if jrE l = 0 then jrE (l ++ [e]) else jrE l
def PostIs (w' : World) (v : Value) (l : List En) (e : En) : Prop := (postE l e ≠ 0 → v = .slice none 0 0) ∧ (postE l e = 0 → EnsIn w' v (l ++ [e]))
theorem PostIs.below {w w' : World} {v : Value} {l : List En} {e : En} (h : PostIs w v l e) (hb : Go.RowKit.Below w.heap.size w w') : PostIs w' v l e := ⟨h.1, fun he => (h.2 he).below hb⟩
theorem take_enth (l : List En) {k : Nat} (h : k < l.length) : l.take k ++ [enth l k] = l.take (k + 1) := by
  rw [List.take_add_one, List.getElem?_eq_getElem h, enth, List.getD_eq_getElem?_getD, List.getElem?_eq_getElem h]
  rfl
/-- What is copied lies apart from the row. -/
theorem fre_apart {w w' : World} {B B' : Nat} {v : Value} {L : List En} {x : Option Addr} {ps : List Am} (hg : GrowE w B v L) (hf : Fre w' B' x ps) (hB : w.heap.size ≤ B') : ps.length = 0 ∨ ∃ b off, x = some ⟨b, off, none⟩ ∧ v.ownBlock ≠ some b := by
  rcases hf with h | ⟨b, off, e, h1, _⟩
  · exact .inl h
  · refine .inr ⟨b, off, e, fun q => ?_⟩
    have := (hg.lt b q).2
    omega
set_option maxRecDepth 100000 in
set_option maxHeartbeats 4000000 in
theorem Post_any (a : Option Addr) (n cap : Nat) (l : List En) (d : Int) (ax : Option Addr) (m cx : Nat) (ps : List Am) (w : World) (hc : CameE w a l) (hn : l.length = n) (hp : PsAt w ax ps) (hm : ps.length = m) (hm24 : m * 24 ≤ 140737488355328) :
    Calls Try.prog 14 #[.slice a n cap, .agg #[.int .i64 d, .slice ax m cx]] w fun e w' => ∃ v, e = .returned (.tuple #[v, .int .i64 (postE l ⟨d, ps⟩)]) ∧ PostIs w' v l ⟨d, ps⟩ ∧ Go.RowKit.Below w.heap.size w w' := by
  have HC := Lib.hid hc
  have HN := Lib.hid hn
  have HPX := Lib.hid hp
  have HM := Lib.hid hm
  have HM24 := Lib.hid hm24
  have HE : Hid (postE l ⟨d, ps⟩ = if jrE l = 0 then jrE (l ++ [⟨d, ps⟩]) else jrE l) := rfl
  clear hc hn hp hm hm24
  obtain ⟨W0, hW0⟩ : ∃ W0, w.alloc (.cells #[.int .i64 d, .slice ax m cx] 29) = W0 := ⟨_, rfl⟩
  have HB0 : Hid (Go.RowKit.Below w.heap.size w W0) := by subst hW0; exact kbelow_box w _
  have HX0 : Hid (W0.cell? ⟨w.heap.size, 0, none⟩ = some (.int .i64 d)) := by subst hW0; show _ = _; simp
  have HX1 : Hid (W0.cell? ⟨w.heap.size, 1, none⟩ = some (.slice ax m cx)) := by subst hW0; show _ = _; simp
  have HXS : Hid (w.heap.size < W0.heap.size) := by subst hW0; show _ < _; simp
  go_enter Try.func14, Try.ntmps14
  go_wp2_with fail
  clear hW0
  refine (Check_any a n cap l _ (HC.out.below HB0.out) HN.out).mono ?_
  rintro e w1 ⟨rfl, hb1⟩
  have HB1 := Lib.hid hb1
  clear hb1
  by_cases h0 : jrE l = 0
  · have H0 := Lib.hid h0
    rw [if_pos h0] at HE
    rw [h0]
    have HL : Hid (n ≤ 100) := Lib.hid (by rw [← HN.out]; exact (jrE_ok h0).1)
    have hn63 : n ≤ 100 := HL.out
    clear h0
    obtain ⟨w2, hmk, hgr2, hb2⟩ := make_ens n HL.out w1
    have HG2 := Lib.hid hgr2
    have HB2 := Lib.hid (HB1.out.trans (hb2.mono HB1.out.size))
    have HS2 : Hid (w1.heap.size ≤ w2.heap.size) := Lib.hid hb2.size
    have HS1 : Hid (W0.heap.size ≤ w1.heap.size) := Lib.hid HB1.out.size
    clear hgr2 hb2
    go_wp2_with fail
    go_loopw [7, 22] (fun v i wr => ∃ k : Nat, k ≤ n ∧ i = .int .i64 k ∧ GrowE wr w1.heap.size v (l.take k) ∧ Go.RowKit.Below W0.heap.size W0 wr ∧ w1.heap.size ≤ wr.heap.size) (fun _ i _ => n - (intOf i).toNat)
    case atStart => exact ⟨0, Nat.zero_le _, rfl, HG2.out, HB2.out, HS2.out⟩
    case round =>
      clear hmk HG2 HB2 HS2
      obtain ⟨k, hk, rfl, hgr, hb, hsz⟩ := hrel
      have HGR := Lib.hid hgr
      have HB := Lib.hid hb
      have HSZ := Lib.hid hsz
      clear hgr hb hsz
      by_cases hlt : k < n
      · have hlt' : (k : Int) < (n : Int) := by omega
        have HKL : Hid (k < l.length) := Lib.hid (by rw [HN.out]; exact hlt)
        have HLEN : Hid ((l.take k).length ≤ 1000) := Lib.hid (by rw [List.length_take]; omega)
        obtain ⟨b, off, rfl, hcell⟩ := (HC.out.below HB0.out).open HN.out (by omega)
        obtain ⟨ae, ce, x0, x1, hp⟩ := hcell wr HB.out k hlt
        clear hcell
        have HP := Lib.hid hp
        clear hp
        have H20 : Hid ((enth l k).ps.length * 24 ≤ 140737488355328) := Lib.hid (by have := (enE_ok ((jrE_ok H0.out).2.1 _ (enth_mem HKL.out))).2.2.1; omega)
        have HTK := Lib.hid (take_enth l HKL.out)
        go_wp2_with fail
        have HBX := Lib.hid (kbelow_box wr (.cells #[.int .i64 (enth l k).day, .slice ae (enth l k).ps.length ce] 29))
        refine (copied_any _ _ _ _ (enth l k).ps _ (HP.out.below HBX.out) rfl H20.out).mono ?_
        rintro e w3 ⟨x, c, rfl, hcl, hb3⟩
        have HB3 := Lib.hid (HBX.out.trans (hb3.mono HBX.out.size))
        obtain ⟨x', c', ex, hps, hfr⟩ := ps_of_clone hcl HP.out.2.1 HP.out.2.2
        injection ex with ex _ ec
        subst ex
        subst ec
        have HG3 := Lib.hid (HGR.out.below HB3.out)
        have HRUN := Lib.hid (run_appE w3 22 w1.heap.size _ (l.take k) HG3.out w3.heap.size rfl (enth l k).day x c (enth l k).ps hps (fre_apart HGR.out hfr HBX.out.size) HLEN.out (Nat.le_trans HSZ.out HB3.out.size))
        clear hcl hb3 hps hfr x0 x1
        go_wp2_with (at_builtin; refine wpList_run_app _ rfl _ _ _ rfl rfl rfl HRUN.out ?_; rintro v9 w9 ⟨hg9, hb9⟩; refine Hid.out ?_)
        have HG9 := Lib.hid hg9
        have HB9 := Lib.hid ((HB.out.trans (HB3.out.mono HB.out.size)).trans (hb9.mono HS1.out))
        have HS9 : Hid (w1.heap.size ≤ w9.heap.size) := Lib.hid (Nat.le_trans (Nat.le_trans HSZ.out HB3.out.size) hb9.size)
        clear hg9 hb9 HRUN
        refine Lib.hid ?_
        go_wp2_with fail
        go_roundw
        case rel => exact ⟨k + 1, by omega, by go_num, by rw [← HTK.out]; exact HG9.out, HB9.out, HS9.out⟩
        case measure => simp [intOf]; omega
      · have hkn : k = n := by omega
        have HTA : Hid (l.take k = l) := Lib.hid (by rw [hkn, ← HN.out]; exact List.take_length)
        subst hkn
        rw [HTA.out] at HGR
        have x0 : wr.cell? ⟨w.heap.size, 0, none⟩ = some (.int .i64 d) := (HB.out.cell (p := ⟨w.heap.size, 0, none⟩) HXS.out).trans HX0.out
        have x1 : wr.cell? ⟨w.heap.size, 1, none⟩ = some (.slice ax m cx) := (HB.out.cell (p := ⟨w.heap.size, 1, none⟩) HXS.out).trans HX1.out
        have HLEN : Hid (l.length ≤ 1000) := Lib.hid (by rw [HN.out]; omega)
        have HPW := Lib.hid ((HPX.out.below HB0.out).below HB.out)
        go_wp2_with fail
        refine (copied_any _ _ _ _ ps _ HPW.out HM.out HM24.out).mono ?_
        rintro e w3 ⟨x, c, rfl, hcl, hb3⟩
        have HB3 := Lib.hid hb3
        rw [← HM.out] at hcl
        obtain ⟨x', c', ex, hps, hfr⟩ := ps_of_clone hcl HPW.out.2.1 HPW.out.2.2
        injection ex with ex _ ec
        subst ex
        subst ec
        have HG3 := Lib.hid (HGR.out.below HB3.out)
        have HRUN := Lib.hid (run_appE w3 22 w1.heap.size _ l HG3.out w3.heap.size rfl d x c ps hps (fre_apart HGR.out hfr (Nat.le_refl _)) HLEN.out (Nat.le_trans HSZ.out HB3.out.size))
        rw [HM.out] at HRUN
        clear hcl hb3 hps hfr x0 x1
        go_wp2_with (at_builtin; refine wpList_run_app _ rfl _ _ _ rfl rfl rfl HRUN.out ?_; rintro v9 w9 ⟨hg9, hb9⟩; refine Hid.out ?_)
        obtain ⟨x9, c9, e9, hc9⟩ := hg9.ens
        subst e9
        have HC9 := Lib.hid hc9
        have HB9 := Lib.hid ((HB0.out.trans (HB.out.mono HB0.out.size)).trans ((HB3.out.mono (Nat.le_trans HB0.out.size HB.out.size)).trans (hb9.mono (Nat.le_trans HB0.out.size HS1.out))))
        obtain ⟨mm, hmm⟩ : ∃ mm, (l ++ [(⟨d, ps⟩ : En)]).length = mm := ⟨_, rfl⟩
        have HMM := Lib.hid hmm
        rw [hmm]
        clear hg9 hb9 HRUN hc9 hmm
        refine Lib.hid ?_
        go_wp2_with fail
        refine (Check_any x9 mm c9 (l ++ [⟨d, ps⟩]) _ HC9.out HMM.out).mono ?_
        rintro e w4 ⟨rfl, hb4⟩
        have HB4 := Lib.hid (HB9.out.trans (hb4.mono HB9.out.size))
        have HC4 := Lib.hid (HC9.out.below hb4)
        clear hb4
        by_cases hz : jrE (l ++ [⟨d, ps⟩]) = 0
        · rw [hz] at HE ⊢
          clear hz
          go_wp2_with fail
          refine bodyPost_ret (v := .tuple #[.slice x9 mm c9, .int .i64 0]) (by simp [results, Try.results14, go_sem] <;> rfl) rfl ?_
          rw [HE.out]
          exact ⟨_, rfl, ⟨fun h => absurd HE.out h, fun _ => ⟨x9, c9, by rw [HMM.out], HC4.out⟩⟩, HB4.out⟩
        · have hz' : (jrE (l ++ [⟨d, ps⟩]) != 0) = true := by simp [hz]
          obtain ⟨cc, hcc⟩ : ∃ c, jrE (l ++ [⟨d, ps⟩]) = c := ⟨_, rfl⟩
          rw [hcc] at HE hz hz' ⊢
          have HZ := Lib.hid hz
          clear hcc hz
          go_wp2_with fail
          refine bodyPost_ret (v := .tuple #[.slice none 0 0, .int .i64 cc]) (by simp [results, Try.results14, go_sem] <;> rfl) rfl ?_
          rw [HE.out]
          exact ⟨_, rfl, ⟨fun _ => rfl, fun h => absurd h (by rw [HE.out]; exact HZ.out)⟩, HB4.out⟩
  · rw [if_neg h0] at HE
    have h0' : (jrE l != 0) = true := by simp [h0]
    obtain ⟨cc, hcc⟩ : ∃ c, jrE l = c := ⟨_, rfl⟩
    rw [hcc] at HE h0 h0' ⊢
    have HZ := Lib.hid h0
    clear hcc h0
    go_wp2_with fail
    refine bodyPost_ret (v := .tuple #[.slice none 0 0, .int .i64 cc]) (by simp [results, Try.results14, go_sem] <;> rfl) rfl ?_
    rw [HE.out]
    exact ⟨_, rfl, ⟨fun _ => rfl, fun h => absurd h (by rw [HE.out]; exact HZ.out)⟩, HB0.out.trans (HB1.out.mono HB0.out.size)⟩
end Go.Proofs.Ytdgcfakbmhchdaa
