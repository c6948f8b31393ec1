/-
  The walk of the law RetroFresh: it answers true at every plan and all ints.
-/
import Derived.Test.YtonceehdmnkffaaGreatDoorMX
import Derived.Test.YtonceehdmnkffaaGreatDoorJO
set_option linter.unusedSimpArgs false
namespace Go.Proofs.YtonceehdmnkffaaGreatDoor
open Go.RowKit Go.Sort Go.Lib

theorem FreshX.no {p : Pl} {frm to seen : Int} {nl ni : Nat} {er : Int} (h : FreshX p frm to seen nl ni er) (hp : PlanIs p 0) (ha : AskOk frm to seen) (h60 : to - frm < 60) {n : Nat} {y : Int} {s : List Int} {outs : List (List Int)} (hn : frm + n = to + 1) (hr : Runs p seen frm nl ni n y s outs) : False := by
  rcases h with ⟨h, h0⟩ | ⟨_, a, _⟩ | ⟨_, _, b, _⟩ | ⟨_, _, _, _, h⟩
  · exact h0 (h.unique hp)
  · exact a ha
  · omega
  · exact h n y s outs hn hr
theorem sameLists_nil (w : World) : Calls Tryz.prog 15 #[.slice none 0 0, .slice none 0 0] w fun e w' => e = .returned (.bool true) ∧ w' = w := by
  go_enter Tryz.func15, Tryz.ntmps15
  go_wp2
  go_loop [5] (fun i => i = .int .i64 0) (fun _ => 0)
  case atStart => rfl
  case round =>
    subst hrel
    go_wp2
    go_ret
    exact ⟨rfl, rfl⟩
set_option maxRecDepth 100000 in
set_option maxHeartbeats 4000000 in
theorem walk_retroFresh (p : Pl) (al : Option Addr) (nl cl : Nat) (at' : Option Addr) (nt ct : Nat) (ai : Option Addr) (ni ci : Nat) (frm : Int) (_ : (Lit.int .i64 frm).wf = true) (to : Int) (wt : (Lit.int .i64 to).wf = true) (seen : Int) (_ : (Lit.int .i64 seen).wf = true) {w : World} (hc : CameP w al at' ai p) (h1 : p.lns.length = nl) (h2 : p.tbs.length = nt) (h3 : p.ins.length = ni) (hS : Shp w) :
    Calls Tryz.prog 4 #[.agg #[.int .i64 p.K, .int .i64 p.A, .int .i64 p.L, .slice al nl cl, .slice at' nt ct, .slice ai ni ci], .int .i64 frm, .int .i64 to, .int .i64 seen] w fun e w' => e = .returned (.bool true) ∧ Below w.heap.size w w' := by
  have HB0 := Lib.hid (kbelow_box w (.cells #[.int .i64 p.K, .int .i64 p.A, .int .i64 p.L, .slice al nl cl, .slice at' nt ct, .slice ai ni ci] 28))
  have HP0 := Lib.hid (PBox.made w p.K p.A p.L al at' ai nl nt ni cl ct ci)
  have HC := Lib.hid hc
  have HS := Lib.hid hS
  have H1 := Lib.hid h1
  have H2 := Lib.hid h2
  have H3 := Lib.hid h3
  have HT : Hid (to ≤ 9223372036854775807) := Lib.hid (wf_up wt)
  clear hS hc h1 h2 h3 wt
  obtain ⟨_, x0, x1, x2, x3, x4, x5⟩ := HP0.out
  go_enter Tryz.func4, Tryz.ntmps4
  go_wp2_with fail
  refine (Fresh_any p al at' ai nl nt ni cl ct ci frm to seen _ (HS.out.below HB0.out) (HC.out.below HB0.out) H1.out H2.out H3.out HT.out).mono ?_
  rintro e w1 ⟨ra, ea, rfl, hfa, hb1⟩
  have HB1 := Lib.hid (HB0.out.trans (hb1.mono HB0.out.size))
  have HP1 := Lib.hid (HP0.out.below hb1 HP0.out.1)
  have HFA := Lib.hid hfa
  clear hb1 HP0 hfa x0 x1 x2 x3 x4 x5
  obtain ⟨_, x0, x1, x2, x3, x4, x5⟩ := HP1.out
  go_wp2_with fail
  refine (freshOf_ref p al at' ai nl nt ni cl ct ci frm to seen _ (HC.out.below HB1.out) H1.out H2.out H3.out HT.out).mono ?_
  rintro e w2 ⟨rb, eb, rfl, hfb, hb2⟩
  have HB2 := Lib.hid (HB1.out.trans (hb2.mono HB1.out.size))
  have HB12 := Lib.hid hb2
  clear hb2 HP1 x0 x1 x2 x3 x4 x5
  rcases HFA.out.lists with ⟨hea, hra⟩ | ⟨hea, hpl, hask, h60, n, ya, sa, oa, rowa, ga, ca, Ba, hna, hruna, _, hola, hra, _, hca, hla⟩
  · have hxa := (HFA.out.err hea).2.x hea H1.out H3.out w
    rcases hfb with ⟨heb, hrb, hxb⟩ | ⟨heb, hpl, hask, h60, n, y, s, outs, g, c, B, hn, hrun, _⟩
    · obtain rfl := hxa.unique hxb
      subst hra hrb
      have heq : (ea == ea) = true := by simp
      clear hxa hxb HFA
      go_wp2_with fail
      refine (retroBegun_any _ (HS.out.below HB2.out)).mono ?_
      rintro e w3 ⟨rfl, hb3⟩
      have HB3 := Lib.hid (HB2.out.trans (hb3.mono HB2.out.size))
      clear hb3
      go_wp2_with fail
      refine (sameLists_nil _).mono ?_
      rintro e w' ⟨rfl, h'⟩
      subst w'
      go_wp2_with fail
      go_ret
      exact ⟨rfl, HB3.out⟩
    · exact (hxa.no hpl hask h60 hn hrun).elim
  · rcases hfb with ⟨heb, hrb, hxb⟩ | ⟨heb, _, _, _, n', y, s, outs, g, c, B, hn, hrun, hrb, hcb, hrw⟩
    · exact (hxb.no hpl hask h60 hna hruna).elim
    · subst hea heb
      obtain rfl : n = n' := by omega
      obtain ⟨_, _, rfl⟩ := Runs.det H1.out hpl.apart hruna hrun
      subst hra hrb
      have hn60 : n ≤ 60 := by omega
      have HSH : Hid (∀ j, j < n → (outN oa j).length ≤ 30) := Lib.hid (fun j hj => by have := (hruna.mon H1.out hj).1; have := hpl.small.1; have := H1.out; omega)
      have HRA := Lib.hid ((hla.rows (m := n) (by omega)).below HB12.out)
      have HRB := Lib.hid hrw
      clear hla hrw hrun hruna HFA hpl hask
      go_wp2_with fail
      refine (retroBegun_any _ (HS.out.below HB2.out)).mono ?_
      rintro e w3 ⟨rfl, hb3⟩
      have HB3 := Lib.hid (HB2.out.trans (hb3.mono HB2.out.size))
      have HSL := Lib.hid (sameLists_yes ga 0 ca g 0 c n Ba B oa w3 (HRA.out.below hb3) (HRB.out.below hb3) hn60 HSH.out)
      clear hb3
      go_wp2_with fail
      refine HSL.out.mono ?_
      rintro e w4 ⟨rfl, hb4⟩
      have HB4 := Lib.hid (HB3.out.trans (hb4.mono HB3.out.size))
      clear hb4
      go_wp2_with fail
      go_ret
      exact ⟨rfl, HB4.out⟩
end Go.Proofs.YtonceehdmnkffaaGreatDoor
