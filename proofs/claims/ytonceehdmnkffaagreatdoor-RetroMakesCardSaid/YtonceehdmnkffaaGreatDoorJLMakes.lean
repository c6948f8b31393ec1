/-
  The walk of the law RetroMakes: it answers true at every plan and all ints.
-/
import Derived.Test.YtonceehdmnkffaaGreatDoorJR
import Derived.Test.YtonceehdmnkffaaGreatDoorJQ
import Derived.Test.YtonceehdmnkffaaGreatDoorJO
set_option linter.unusedSimpArgs false
namespace Go.Proofs.YtonceehdmnkffaaGreatDoor
open Go.RowKit Go.Sort Go.Lib

theorem FreshR.sameL {p : Pl} {frm to seen : Int} {nl ni : Nat} {w w' : World} {rv : Value} {er : Int} (h : FreshR p frm to seen nl ni w rv er w') (h1 : p.lns.length = nl) (hp : PlanIs p 0) (ha : AskOk frm to seen) (h60 : to - frm < 60) {n : Nat} {y : Int} {s : List Int} {outs : List (List Int)} (hn : frm + n = to + 1) (hr : Runs p seen frm nl ni n y s outs) :
    er = 0 ∧ ∃ (g c B : Nat), rv = .slice (some ⟨g, 0, none⟩) n c ∧ n ≤ c ∧ RowsAt w' g 0 n B outs := by
  have h0 := (h.runs h1 hp ha h60 hn hr).1
  refine ⟨h0, ?_⟩
  rcases h.lists with ⟨q, _⟩ | ⟨_, _, _, _, n', y', s', outs', rows, g, c, B, hn', hr', _, ho', hv, _, hc, hl⟩
  · exact absurd h0 q
  · obtain rfl : n = n' := by omega
    obtain ⟨_, _, rfl⟩ := Runs.det h1 hp.apart hr hr'
    exact ⟨g, c, B, hv, hc, hl.rows (by omega)⟩
theorem FreshE.no {p : Pl} {frm to seen : Int} {nl ni : Nat} {er : Int} (h : FreshE p frm to seen nl ni er) (h0 : er ≠ 0) (h1 : p.lns.length = nl) (hp : PlanIs p 0) (ha : AskOk frm to seen) (h60 : to - frm < 60) {n : Nat} {y : Int} {s : List Int} {outs : List (List Int)} (hn : frm + n = to + 1) (hr : Runs p seen frm nl ni n y s outs) (w : World) : False :=
  h0 (FreshR.runs (w := w) (w' := w) (rv := .slice none 0 0) (.inl ⟨h0, rfl, h⟩) h1 hp ha h60 hn hr).1
theorem dltN_neg (oa ob : List (List Int)) (i : Nat) : ∀ k, dltN ob oa i k = -dltN oa ob i k
  | 0 => by simp [dltN]
  | k + 1 => by rw [dltN, dltN, dltN_neg oa ob i k]; omega
theorem monB_neg {x : Int} (h : monB x = true) : monB (-x) = true := by
  have := monB_iff.1 h
  exact monB_iff.2 (by omega)
theorem DeltaR.sameD {p : Pl} {frm to was is : Int} {nl ni : Nat} {w w' : World} {rv : Value} {er : Int} (h : DeltaR p frm to was is nl ni w rv er w') (h1 : p.lns.length = nl) (hp : PlanIs p 0) (ha : AskOk frm to was) (hb : AskOk frm to is) (h60 : to - frm < 60) {n : Nat} {ya yb : Int} {sa sb : List Int} {oa ob : List (List Int)} (hn : frm + n = to + 1) (hra : Runs p was frm nl ni n ya sa oa) (hrb : Runs p is frm nl ni n yb sb ob) (hm : ∀ i, i < nl → monB (dltN oa ob i n) = true) :
    er = 0 ∧ ∃ g, rv = .slice (some ⟨g, 0, none⟩) nl nl ∧ Own w' g (dltL oa ob nl n 0) := by
  rcases h with ⟨h0, _, h | ⟨_, h⟩ | ⟨_, _, _, _, _, n', ya', sa', oa', yb', sb', ob', hn', ra', rb', i, hi, hmi⟩⟩ | ⟨h0, _, _, _, _, n', ya', sa', oa', yb', sb', ob', g, hn', ra', rb', _, hv, _, ho⟩
  · exact (h.no h0 h1 hp ha h60 hn hra w).elim
  · exact (h.no h0 h1 hp hb h60 hn hrb w).elim
  · obtain rfl : n = n' := by omega
    obtain ⟨_, _, rfl⟩ := Runs.det h1 hp.apart hra ra'
    obtain ⟨_, _, rfl⟩ := Runs.det h1 hp.apart hrb rb'
    rw [hm i hi] at hmi
    cases hmi
  · obtain rfl : n = n' := by omega
    obtain ⟨_, _, rfl⟩ := Runs.det h1 hp.apart hra ra'
    obtain ⟨_, _, rfl⟩ := Runs.det h1 hp.apart hrb rb'
    exact ⟨h0, g, hv, ho⟩
theorem own_below {w w' : World} {g : Nat} {l : List Int} (h : Own w g l) (hb : Below w.heap.size w w') : Own w' g l := own_blk h (hb.block g h.1) hb.size
set_option maxRecDepth 100000 in
set_option maxHeartbeats 8000000 in
theorem walk_retroMakes (p : Pl) (al : Option Addr) (nl cl : Nat) (at' : Option Addr) (nt ct : Nat) (ai : Option Addr) (ni ci : Nat) (frm : Int) (_ : (Lit.int .i64 frm).wf = true) (to : Int) (wt : (Lit.int .i64 to).wf = true) (was : Int) (_ : (Lit.int .i64 was).wf = true) (is : Int) (_ : (Lit.int .i64 is).wf = true) {w : World} (hc : CameP w al at' ai p) (h1 : p.lns.length = nl) (h2 : p.tbs.length = nt) (h3 : p.ins.length = ni) (hS : Shp w) :
    Calls Tryz.prog 7 #[.agg #[.int .i64 p.K, .int .i64 p.A, .int .i64 p.L, .slice al nl cl, .slice at' nt ct, .slice ai ni ci], .int .i64 frm, .int .i64 to, .int .i64 was, .int .i64 is] w fun e w' => e = .returned (.bool true) ∧ Below w.heap.size w w' := by
  have HB0 := Lib.hid (kbelow_box w (.cells #[.int .i64 p.K, .int .i64 p.A, .int .i64 p.L, .slice al nl cl, .slice at' nt ct, .slice ai ni ci] 28))
  have HP0 := Lib.hid (PBox.made w p.K p.A p.L al at' ai nl nt ni cl ct ci)
  have HC := Lib.hid hc
  have HS := Lib.hid hS
  have H1 := Lib.hid h1
  have H2 := Lib.hid h2
  have H3 := Lib.hid h3
  have HT : Hid (to ≤ 9223372036854775807) := Lib.hid (wf_up wt)
  clear hS hc h1 h2 h3 wt
  obtain ⟨_, x0, x1, x2, x3, x4, x5⟩ := HP0.out
  go_enter Tryz.func7, Tryz.ntmps7
  go_wp2_with fail
  refine (retroBegun_any _ (HS.out.below HB0.out)).mono ?_
  rintro e w1 ⟨rfl, hb1⟩
  have HB1 := Lib.hid (HB0.out.trans (hb1.mono HB0.out.size))
  have HP1 := Lib.hid (HP0.out.below hb1 HP0.out.1)
  clear hb1 HP0 HB0 x0 x1 x2 x3 x4 x5
  obtain ⟨_, x0, x1, x2, x3, x4, x5⟩ := HP1.out
  go_wp2_with fail
  refine (Delta_any p al at' ai nl nt ni cl ct ci frm to was is _ (HS.out.below HB1.out) (HC.out.below HB1.out) H1.out H2.out H3.out HT.out).mono ?_
  rintro e w2 ⟨rd, ed, rfl, hfd, hb2⟩
  have HB2 := Lib.hid (HB1.out.trans (hb2.mono HB1.out.size))
  have HP2 := Lib.hid (HP1.out.below hb2 HP1.out.1)
  clear hb2 HP1 HB1 x0 x1 x2 x3 x4 x5
  rcases hfd with ⟨hed, _⟩ | ⟨rfl, hpl, haa, hab, h60, n, ya, sa, oa, yb, sb, ob, gd, hn, hra, hrb, hmm, rfl, _, hod⟩
  · have heB : (ed != 0) = true := by simp [hed]
    go_wp2_with fail
    go_ret
    exact ⟨rfl, HB2.out⟩
  · have HPL := Lib.hid hpl
    have HAA := Lib.hid haa
    have HAB := Lib.hid hab
    have HRA := Lib.hid hra
    have HRB := Lib.hid hrb
    have HMM := Lib.hid hmm
    have HOD := Lib.hid hod
    have hn60 : n ≤ 60 := by omega
    have hnl : nl ≤ 30 := by have := hpl.small.1; have := H1.out; omega
    clear hpl haa hab hra hrb hmm hod
    obtain ⟨_, x0, x1, x2, x3, x4, x5⟩ := HP2.out
    go_wp2_with fail
    refine (Fresh_any p al at' ai nl nt ni cl ct ci frm to was _ (HS.out.below HB2.out) (HC.out.below HB2.out) H1.out H2.out H3.out HT.out).mono ?_
    rintro e w3 ⟨ra, ea, rfl, hfa, hb3⟩
    obtain ⟨rfl, ga, ca, Ba, rfl, hca, hla⟩ := hfa.sameL H1.out HPL.out HAA.out h60 hn HRA.out
    have HB3 := Lib.hid (HB2.out.trans (hb3.mono HB2.out.size))
    have HP3 := Lib.hid (HP2.out.below hb3 HP2.out.1)
    have HOD3 := Lib.hid (own_below HOD.out hb3)
    have HLA := Lib.hid hla
    clear hb3 hfa hla HP2 HB2 HOD x0 x1 x2 x3 x4 x5
    obtain ⟨_, x0, x1, x2, x3, x4, x5⟩ := HP3.out
    go_wp2_with fail
    refine (Fresh_any p al at' ai nl nt ni cl ct ci frm to is _ (HS.out.below HB3.out) (HC.out.below HB3.out) H1.out H2.out H3.out HT.out).mono ?_
    rintro e w4 ⟨rb, eb, rfl, hfb, hb4⟩
    obtain ⟨rfl, gb, cb, Bb, rfl, hcb, hlb⟩ := hfb.sameL H1.out HPL.out HAB.out h60 hn HRB.out
    have HB4 := Lib.hid (HB3.out.trans (hb4.mono HB3.out.size))
    have HP4 := Lib.hid (HP3.out.below hb4 HP3.out.1)
    have HOD4 := Lib.hid (own_below HOD3.out hb4)
    have HLA4 := Lib.hid (HLA.out.below hb4)
    have HLB := Lib.hid hlb
    clear hb4 hfb hlb HP3 HB3 HOD3 HLA x0 x1 x2 x3 x4 x5
    obtain ⟨_, x0, x1, x2, x3, x4, x5⟩ := HP4.out
    go_wp2_with fail
    refine (Delta_any p al at' ai nl nt ni cl ct ci frm to is was _ (HS.out.below HB4.out) (HC.out.below HB4.out) H1.out H2.out H3.out HT.out).mono ?_
    rintro e w5 ⟨rk, ek, rfl, hfk, hb5⟩
    obtain ⟨rfl, gk, rfl, hok⟩ := hfk.sameD H1.out HPL.out HAB.out HAA.out h60 hn HRB.out HRA.out fun i hi => by rw [dltN_neg]; exact monB_neg (HMM.out i hi)
    have HB5 := Lib.hid (HB4.out.trans (hb5.mono HB4.out.size))
    have HOD5 := Lib.hid (own_below HOD4.out hb5)
    have HLA5 := Lib.hid (HLA4.out.below hb5)
    have HLB5 := Lib.hid (HLB.out.below hb5)
    have HOK := Lib.hid hok
    have hnn : ((n : Int) != (n : Int)) = false := by simp
    have hll : ((nl : Int) != (nl : Int)) = false := by simp
    clear hb5 hfk hok HP4 HB4 HOD4 HLA4 HLB x0 x1 x2 x3 x4 x5
    go_wp2_with fail
    go_loopw [19] (fun i wr => ∃ k : Nat, k ≤ nl ∧ i = .int .i64 k ∧ ∃ q, wr = w5.drewN q) (fun i _ => nl - (intOf i).toNat)
    case atStart => exact ⟨0, Nat.zero_le _, rfl, 0, rfl⟩
    case round =>
      obtain ⟨i, hi, rfl, q0, rfl⟩ := hrel
      by_cases hlt : i < nl
      · have hlt' : (i : Int) < (nl : Int) := by omega
        have xd := HOD5.out.cell (j := i) (by rw [dltL_len]; exact hlt)
        have xk := HOK.out.cell (j := i) (by rw [dltL_len]; exact hlt)
        rw [dltL_at oa ob hlt, if_neg (Nat.not_lt_zero _)] at xd
        rw [dltL_at ob oa hlt, if_neg (Nat.not_lt_zero _), dltN_neg] at xk
        have bd := monB_iff.1 (HMM.out i hlt)
        have HBK : Hid (∀ k, k ≤ n → -(2000000000000 * (k : Int)) ≤ dltN oa ob i k ∧ dltN oa ob i k ≤ 2000000000000 * (k : Int)) := dltN_bd (nl := nl) (fun q hq => (HRA.out.mon H1.out hq).2 i hlt) (fun q hq => (HRB.out.mon H1.out hq).2 i hlt)
        obtain ⟨D, hD⟩ : ∃ D, dltN oa ob i n = D := ⟨_, rfl⟩
        rw [hD] at xd xk bd
        have HD := Lib.hid hD
        clear hD
        go_wp2_with fail
        go_loopw [20, 21] (fun v i' wr => ∃ k : Nat, k ≤ n ∧ i' = .int .i64 k ∧ v = .int .i64 (D - dltN oa ob i k) ∧ ∃ q, wr = w5.drewN q) (fun _ i' _ => n - (intOf i').toNat)
        case atStart => exact ⟨0, Nat.zero_le _, rfl, by simp [dltN], q0, rfl⟩
        case round =>
          obtain ⟨k, hk, rfl, rfl, q1, rfl⟩ := hrel
          by_cases hkn : k < n
          · have hkn' : (k : Int) < (n : Int) := by omega
            obtain ⟨va, ya', gra⟩ := HLA5.out.2 k hkn
            obtain ⟨vb, yb', grb⟩ := HLB5.out.2 k hkn
            rw [Nat.zero_add] at ya' yb'
            obtain ⟨xa, da, rfl, _, hoa⟩ := gra.own (by rw [(HRA.out.mon H1.out hkn).1]; omega)
            obtain ⟨xb, db, rfl, _, hob⟩ := grb.own (by rw [(HRB.out.mon H1.out hkn).1]; omega)
            have za := hoa.cell (j := i) (by rw [(HRA.out.mon H1.out hkn).1]; exact hlt)
            have zb := hob.cell (j := i) (by rw [(HRB.out.mon H1.out hkn).1]; exact hlt)
            rw [(HRA.out.mon H1.out hkn).1] at ya'
            rw [(HRB.out.mon H1.out hkn).1] at yb'
            have b1 := HBK.out k (by omega)
            have b2 := monB_iff.1 ((HRA.out.mon H1.out hkn).2 i hlt)
            have b3 := monB_iff.1 ((HRB.out.mon H1.out hkn).2 i hlt)
            obtain ⟨x, hx⟩ : ∃ x, dltN oa ob i k = x := ⟨_, rfl⟩
            obtain ⟨y, hy⟩ : ∃ y, nth (outN ob k) i = y := ⟨_, rfl⟩
            obtain ⟨z, hz⟩ : ∃ z, nth (outN oa k) i = z := ⟨_, rfl⟩
            rw [hx] at b1 ⊢
            rw [hy] at zb b3
            rw [hz] at za b2
            have HX : Hid (D - dltN oa ob i (k + 1) = D - x + (z - y)) := Lib.hid (by rw [dltN, hx, hy, hz]; omega)
            have i1 : IntKind.i64.wrap (z - y) = z - y := IntWalk.i64_in _ (by omega)
            have i2 : IntKind.i64.wrap (D - x + (z - y)) = D - x + (z - y) := IntWalk.i64_in _ (by omega)
            clear hoa hob gra grb hx hy hz b1 b2 b3
            go_wp2_with fail
            go_quiet (fail)
            go_wp2_with fail
            go_roundw
            case rel => exact ⟨k + 1, by omega, by go_num, by rw [HX.out], _, rfl⟩
            case measure => simp [intOf]; omega
          · obtain rfl : k = n := by omega
            have hkB : decide ((k : Int) < (k : Int)) = false := decide_eq_false (by omega)
            have h0 : D - dltN oa ob i k = 0 := by rw [HD.out]; omega
            have hD0 : (-D != -D) = false := by simp
            have i1 : IntKind.i64.wrap (-D) = -D := IntWalk.i64_in _ (by omega)
            rw [h0]
            go_wp2_with fail
            go_quiet (fail)
            go_wp2_with fail
            go_roundw
            case rel => exact ⟨i + 1, by omega, by go_num, _, rfl⟩
            case measure => simp [intOf]; omega
      · obtain rfl : i = nl := by omega
        have hltB : decide ((i : Int) < (i : Int)) = false := decide_eq_false (by omega)
        go_wp2_with fail
        go_ret
        exact ⟨rfl, kbelow_dN HB5.out _⟩
end Go.Proofs.YtonceehdmnkffaaGreatDoor
