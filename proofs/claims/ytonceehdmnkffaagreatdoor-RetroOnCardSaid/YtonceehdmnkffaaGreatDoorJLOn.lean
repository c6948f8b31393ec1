/-
  The walk of the law RetroOn: it answers true at every plan and all ints.
-/
import Derived.Test.YtonceehdmnkffaaGreatDoorJQ
import Derived.Test.YtonceehdmnkffaaGreatDoorJO
import Derived.Test.YtonceehdmnkffaaGreatDoorJK
set_option linter.unusedSimpArgs false
namespace Go.Proofs.YtonceehdmnkffaaGreatDoor
open Go.RowKit Go.Sort Go.Lib

theorem wf_down {c : Int} (h : (Lit.int .i64 c).wf = true) : -9223372036854775808 ≤ c := by
  simp only [Lit.wf, Bool.and_eq_true, decide_eq_true_eq] at h
  exact h.1
theorem FreshR.same {p : Pl} {frm to seen : Int} {nl ni : Nat} {w w' : World} {rv : Value} {er : Int} (h : FreshR p frm to seen nl ni w rv er w') (h1 : p.lns.length = nl) (hp : PlanIs p 0) (ha : AskOk frm to seen) (h60 : to - frm < 60) {n : Nat} {y : Int} {s : List Int} {outs : List (List Int)} (hn : frm + n = to + 1) (hr : Runs p seen frm nl ni n y s outs) :
    er = 0 ∧ ∃ (g c B : Nat), rv = .slice (some ⟨g, 0, none⟩) n c ∧ n ≤ c ∧ RowsAt w' g 0 n B outs := by
  have h0 := (h.runs h1 hp ha h60 hn hr).1
  refine ⟨h0, ?_⟩
  rcases h.lists with ⟨q, _⟩ | ⟨_, _, _, _, n', y', s', outs', rows, g, c, B, hn', hr', _, ho', hv, _, hc, hl⟩
  · exact absurd h0 q
  · obtain rfl : n = n' := by omega
    obtain ⟨_, _, rfl⟩ := Runs.det h1 hp.apart hr hr'
    exact ⟨g, c, B, hv, hc, hl.rows (by omega)⟩
theorem civil_at {f d : Int} {k m : Nat} (h : Cal.IsCivil f k m d) (hd : Cal.dayB f = true) (w : World) : Calls Tryz.prog 27 #[.int .i64 f] w fun e w' => e = .returned (.agg #[.int .i64 (2000 + k), .int .i64 m, .int .i64 d]) ∧ Below w.heap.size w w' := by
  refine (Cal.civil_ref f w hd).mono ?_
  rintro e w' ⟨k', m', d', rfl, hc, hb⟩
  obtain ⟨rfl, rfl, rfl⟩ := h.unique hc
  exact ⟨rfl, hb⟩
theorem date_year (x y z : Value) (W : World) : Sem.run Tryz.prog (Instr.field 60 (.agg #[x, y, z]) 0) W = .ok x W := by kernel_rfl
set_option maxRecDepth 100000 in
set_option maxHeartbeats 8000000 in
theorem walk_retroOn (p : Pl) (al : Option Addr) (nl cl : Nat) (at' : Option Addr) (nt ct : Nat) (ai : Option Addr) (ni ci : Nat) (frm : Int) (_ : (Lit.int .i64 frm).wf = true) (to : Int) (wt : (Lit.int .i64 to).wf = true) (seen : Int) (_ : (Lit.int .i64 seen).wf = true) (cut : Int) (wc : (Lit.int .i64 cut).wf = true) {w : World} (hc : CameP w al at' ai p) (h1 : p.lns.length = nl) (h2 : p.tbs.length = nt) (h3 : p.ins.length = ni) (hS : Shp w) :
    Calls Tryz.prog 9 #[.agg #[.int .i64 p.K, .int .i64 p.A, .int .i64 p.L, .slice al nl cl, .slice at' nt ct, .slice ai ni ci], .int .i64 frm, .int .i64 to, .int .i64 seen, .int .i64 cut] w fun e w' => e = .returned (.bool true) ∧ Below w.heap.size w w' := by
  have HB0 := Lib.hid (kbelow_box w (.cells #[.int .i64 p.K, .int .i64 p.A, .int .i64 p.L, .slice al nl cl, .slice at' nt ct, .slice ai ni ci] 28))
  have HP0 := Lib.hid (PBox.made w p.K p.A p.L al at' ai nl nt ni cl ct ci)
  have HC := Lib.hid hc
  have HS := Lib.hid hS
  have H1 := Lib.hid h1
  have H2 := Lib.hid h2
  have H3 := Lib.hid h3
  have HT : Hid (to ≤ 9223372036854775807) := Lib.hid (wf_up wt)
  have HCU := Lib.hid (And.intro (wf_down wc) (wf_up wc))
  clear hS hc h1 h2 h3 wt wc
  obtain ⟨_, x0, x1, x2, x3, x4, x5⟩ := HP0.out
  go_enter Tryz.func9, Tryz.ntmps9
  go_wp2_with fail
  refine (retroBegun_any _ (HS.out.below HB0.out)).mono ?_
  rintro e w1 ⟨rfl, hb1⟩
  have HB1 := Lib.hid (HB0.out.trans (hb1.mono HB0.out.size))
  have HP1 := Lib.hid (HP0.out.below hb1 HP0.out.1)
  clear hb1 HP0 HB0 x0 x1 x2 x3 x4 x5
  obtain ⟨_, x0, x1, x2, x3, x4, x5⟩ := HP1.out
  go_wp2_with fail
  refine (Fresh_any p al at' ai nl nt ni cl ct ci frm to seen _ (HS.out.below HB1.out) (HC.out.below HB1.out) H1.out H2.out H3.out HT.out).mono ?_
  rintro e w2 ⟨ra, ea, rfl, hfa, hb2⟩
  have HB2 := Lib.hid (HB1.out.trans (hb2.mono HB1.out.size))
  have HP2 := Lib.hid (HP1.out.below hb2 HP1.out.1)
  clear hb2 HP1 x0 x1 x2 x3 x4 x5
  rcases hfa.lists with ⟨hea, _⟩ | ⟨rfl, hpl, hask, h60, n, ya, sa, oa, rowa, ga, ca, Ba, hna, hra, _, hola, rfl, _, hca, hla⟩
  · have heB : (ea != 0) = true := by simp [hea]
    go_wp2_with fail
    go_ret
    exact ⟨rfl, HB2.out⟩
  · have HPL := Lib.hid hpl
    have HRA := Lib.hid hra
    have HOA := Lib.hid hola
    have HD := Lib.hid hask.1
    have hfr0 : 0 ≤ frm := hask.2.1
    have hft : frm ≤ to := hask.2.2
    have hn1 : 1 ≤ n := by omega
    have hfr : frm ≤ 5000 := by
      obtain ⟨f, t, q⟩ := hra.at (j := 0) (by omega)
      have := (at_day q).2
      omega
    have HRW := Lib.hid (hla.rows (m := n) (by rw [hola]; exact Nat.le_refl _))
    have HSH : Hid (∀ j, j < n → (outN oa j).length ≤ 30) := fun j hj => Nat.le_trans (hla.short H1.out hra hj) (by have := hpl.small.1; have := H1.out; omega)
    obtain ⟨q, hq⟩ : ∃ q : Nat, chooseI cut (to - frm + 1) = (q : Int) := ⟨(chooseI cut (to - frm + 1)).toNat, by have := choose_bd cut (to - frm + 1) (by omega); omega⟩
    have hqn : q < n := by have := choose_bd cut (to - frm + 1) (by omega); omega
    have HQ := Lib.hid hq
    clear hfa hpl hra hola hask hla hq
    obtain ⟨_, x0, x1, x2, x3, x4, x5⟩ := HP2.out
    go_wp2_with (first | (go_at_call 20; refine (choose_any _ _ _ HCU.out.1 HCU.out.2 (by omega) (by omega)).mono ?_; rintro e w' ⟨rfl, h'⟩; subst w'; rw [HQ.out]))
    refine (Fresh_any p al at' ai nl nt ni cl ct ci frm (frm + q) seen _ (HS.out.below HB2.out) (HC.out.below HB2.out) H1.out H2.out H3.out (by omega)).mono ?_
    rintro e w3 ⟨rb, eb, rfl, hfb, hb3⟩
    obtain ⟨yq, sq, rq⟩ := HRA.out.pre (q + 1) (by omega)
    obtain ⟨rfl, gb, cb, Bb, rfl, hcb, hlb⟩ := hfb.same H1.out HPL.out ⟨HD.out, hfr0, by omega⟩ (by omega) (by omega) rq
    have HB3 := Lib.hid (HB2.out.trans (hb3.mono HB2.out.size))
    have HP3 := Lib.hid (HP2.out.below hb3 HP2.out.1)
    have HRW3 := Lib.hid (HRW.out.below hb3)
    have HLB := Lib.hid hlb
    have HS1 := Lib.hid (sameLists_yes gb 0 cb ga 0 ca (q + 1) Bb Ba (oa.take (q + 1)) w3 hlb ((HRW.out.below hb3).take (by omega)) (by omega) fun j hj => by rw [outN_take hj]; exact HSH.out j (by omega))
    have hqs : frm + (q : Int) - frm = (q : Int) := by omega
    clear hfb hb3 rq hlb x0 x1 x2 x3 x4 x5 HP2 HRW
    go_wp2_with fail
    refine HS1.out.mono ?_
    rintro e w4 ⟨rfl, hb4⟩
    have HB4 := Lib.hid (HB3.out.trans (hb4.mono HB3.out.size))
    have HP4 := Lib.hid (HP3.out.below hb4 HP3.out.1)
    have HRW4 := Lib.hid (HRW3.out.below hb4)
    clear hb4 HS1 HLB HRW3 HP3 HB3
    obtain ⟨_, x0, x1, x2, x3, x4, x5⟩ := HP4.out
    go_wp2_with fail
    refine (Fresh_any p al at' ai nl nt ni cl ct ci (frm + q) to seen _ (HS.out.below HB4.out) (HC.out.below HB4.out) H1.out H2.out H3.out HT.out).mono ?_
    rintro e w5 ⟨rc, ec, rfl, hfc, hb5⟩
    have HFC := Lib.hid hfc
    have HB5 := Lib.hid (HB4.out.trans (hb5.mono HB4.out.size))
    have HP5 := Lib.hid (HP4.out.below hb5 HP4.out.1)
    have HRW5 := Lib.hid (HRW4.out.below hb5)
    clear hb5 hfc HRW4 HP4 x0 x1 x2 x3 x4 x5
    obtain ⟨_, x0, x1, x2, x3, x4, x5⟩ := HP5.out
    go_wp2_with fail
    refine (Cal.At_any p.K p.A p.L (frm + q) _).mono ?_
    rintro e w6 ⟨f, t, er, rfl, hat, hb6⟩
    obtain ⟨yq, sq, kq, rq, stq, rq1⟩ := HRA.out.pre_step hqn
    obtain ⟨f0, t0, d0, m0, yrs0, at0, cv0, _⟩ := stq
    obtain ⟨rfl, rfl, rfl⟩ := hat.unique at0
    have HYQ : Hid (YearAt p (frm + q) kq) := ⟨_, _, _, _, at0, cv0⟩
    have HCV := Lib.hid cv0
    have HDY := Lib.hid (at_day at0).1
    have HB6 := Lib.hid (HB5.out.trans (hb6.mono HB5.out.size))
    have HP6 := Lib.hid (HP5.out.below hb6 HP5.out.1)
    have HRW6 := Lib.hid (HRW5.out.below hb6)
    have HFCX : Hid (FreshR p (frm + q) to seen nl ni w4 rc ec w5) := HFC.out
    have HB56 := Lib.hid hb6
    clear hb6 hat at0 cv0 rq rq1 HRW5 HP5 x0 x1 x2 x3 x4 x5
    have HBX := Lib.hid (kbelow_box w6 (.cells #[.int .i64 f, .int .i64 t] 42))
    have HB7 := Lib.hid (HB6.out.trans (HBX.out.mono HB6.out.size))
    have HP7 := Lib.hid (HP6.out.below HBX.out HP6.out.1)
    have HRW7 := Lib.hid (HRW6.out.below HBX.out)
    have hq6 : (w6.alloc (.cells #[.int .i64 f, .int .i64 t] 42)).cell? ⟨w6.heap.size, 0, none⟩ = some (.int .i64 f) := by simp
    have HB57 := Lib.hid (HB56.out.trans (HBX.out.mono HB56.out.size))
    clear HP6 HRW6
    have HCUT : Hid ((q = 0 ∨ (0 < q ∧ ∃ k k', YearAt p (frm + q - 1) k ∧ YearAt p (frm + q) k' ∧ k ≠ k')) → ec = 0 ∧ ∃ (gc cc Bc : Nat), rc = .slice (some ⟨gc, 0, none⟩) (n - q) cc ∧ ∀ W, Below w5.heap.size w5 W → RowsAt W ga 0 n Ba oa → Calls Tryz.prog 15 #[.slice (some ⟨gc, 0, none⟩) (n - q) cc, .slice (some ⟨ga, q, none⟩) (n - q) (ca - q)] W fun e w' => e = .returned (.bool true) ∧ Below W.heap.size W w') := by
      intro hy
      obtain ⟨y', s', _, rc'⟩ := HRA.out.cut H1.out HPL.out.apart hqn hy (n - q - 1) (by omega)
      rw [show q + (n - q - 1) + 1 = n by omega, show n - q - 1 + 1 = n - q by omega, List.take_of_length_le (by rw [HOA.out]; exact Nat.le_refl _)] at rc'
      obtain ⟨e0, gc, cc, Bc, hv, _, hrw⟩ := HFC.out.same H1.out HPL.out ⟨HD.out, by omega, by omega⟩ (by omega) (by omega) rc'
      refine ⟨e0, gc, cc, Bc, hv, fun W hW hRA => ?_⟩
      exact sameLists_yes gc 0 cc ga q (ca - q) (n - q) Bc Ba (oa.drop q) W (hrw.below hW) (hRA.drop (by omega)) (by omega) fun j hj => by rw [outN_drop]; exact HSH.out _ (by omega)
    have hw1 : IntKind.i64.wrap (frm + (q : Int) - 1) = frm + (q : Int) - 1 := IntWalk.i64_in _ (by omega)
    by_cases hq0 : q = 0
    · have heq : (frm + (q : Int) == frm) = true := by simp [hq0]
      obtain ⟨he, gc, cc, Bc, hv, hsl⟩ := HCUT.out (.inl hq0)
      subst he hv
      have HSL := Lib.hid (hsl _ HB57.out HRW7.out)
      clear hq0 hsl HCUT
      go_wp2_with fail
      refine HSL.out.mono ?_
      rintro e w8 ⟨rfl, hb8⟩
      have HB8 := Lib.hid (HB7.out.trans (hb8.mono HB7.out.size))
      clear hb8
      go_wp2_with fail
      go_ret
      exact ⟨rfl, HB8.out⟩
    · have heq : (frm + (q : Int) == frm) = false := by simp; omega
      obtain ⟨_, x0, x1, x2, x3, x4, x5⟩ := HP7.out
      go_wp2_with fail
      refine (Cal.At_any p.K p.A p.L (frm + q - 1) _).mono ?_
      rintro e w8 ⟨f', t', er', rfl, hat', hb8⟩
      obtain ⟨yq', sq', kp, _, stp, _⟩ := HRA.out.pre_step (m := q - 1) (by omega)
      obtain ⟨f1, t1, d1, m1, yrs1, at1, cv1, _⟩ := stp
      rw [show frm + ((q - 1 : Nat) : Int) = frm + q - 1 by omega] at at1
      obtain ⟨rfl, rfl, rfl⟩ := hat'.unique at1
      have HYP : Hid (YearAt p (frm + q - 1) kp) := ⟨_, _, _, _, at1, cv1⟩
      have HDP := Lib.hid (at_day at1).1
      have HCP := Lib.hid cv1
      have HB8 := Lib.hid (HB7.out.trans (hb8.mono HB7.out.size))
      have HB58 := Lib.hid (HB57.out.trans (hb8.mono HB57.out.size))
      have HRW8 := Lib.hid (HRW7.out.below hb8)
      have hq8 := (hb8.cell (p := ⟨w6.heap.size, 0, none⟩) (by simp)).trans hq6
      have HBY := Lib.hid (kbelow_box w8 (.cells #[.int .i64 f', .int .i64 t'] 42))
      have HB9 := Lib.hid (HB8.out.trans (HBY.out.mono HB8.out.size))
      have HB59 := Lib.hid (HB58.out.trans (HBY.out.mono HB58.out.size))
      have HRW9 := Lib.hid (HRW8.out.below HBY.out)
      have hq9 := (HBY.out.cell (p := ⟨w6.heap.size, 0, none⟩) (blt_of_cell hq8)).trans hq8
      have hp9 : (w8.alloc (.cells #[.int .i64 f', .int .i64 t'] 42)).cell? ⟨w8.heap.size, 0, none⟩ = some (.int .i64 f') := by simp
      clear hb8 hat' at1 cv1 HB8 HB58 HRW8 hq8 HBY HB7 HB57 HP7 HRW7 hq6 x0 x1 x2 x3 x4 x5
      go_wp2_with fail
      generalize (w8.alloc (.cells #[.int .i64 f', .int .i64 t'] 42)) = w9 at *
      have za := cell_regrown hq9
      have zb := cell_regrown hp9
      refine wp_region_quiet_below (by kernel_rfl) (by kernel_rfl) ?_
      repeat (go_big_quiet_step (first | (go_at_call_of 27 f; exact Calls.regrown_of (civil_at HCV.out HDY.out _)) | (go_at_call_of 27 f'; exact Calls.regrown_of (civil_at HCP.out HDP.out _)) | (rw [date_year]; exact ⟨rfl, rfl⟩)))
      refine wpQuiet_nil ?_
      intro _ hw'
      obtain ⟨⟨dq, osq⟩, hw''⟩ := hw'
      subst hw''
      have HBN := Lib.hid (HB9.out.trans ((below_regrown w9 dq osq).mono HB9.out.size))
      by_cases hyy : kp = kq
      · have hyB : ((2000 : Int) + (kp : Int) != 2000 + (kq : Int)) = false := by simp [hyy]
        go_wp2_with fail
        go_ret
        exact ⟨rfl, HBN.out⟩
      · have hyB : ((2000 : Int) + (kp : Int) != 2000 + (kq : Int)) = true := by simp; omega
        obtain ⟨he, gc, cc, Bc, hv, hsl⟩ := HCUT.out (.inr ⟨by omega, kp, kq, HYP.out, HYQ.out, hyy⟩)
        subst he hv
        have HSL := Lib.hid (hsl _ (HB59.out.trans ((below_regrown w9 dq osq).mono HB59.out.size)) (HRW9.out.below (below_regrown w9 dq osq)))
        clear hsl HCUT
        go_wp2_with fail
        refine HSL.out.mono ?_
        rintro e w10 ⟨rfl, hb10⟩
        have HB10 := Lib.hid (HBN.out.trans (hb10.mono HBN.out.size))
        clear hb10
        go_wp2_with fail
        go_ret
        exact ⟨rfl, HB10.out⟩
end Go.Proofs.YtonceehdmnkffaaGreatDoor
