/-
  The walk of the law RetroDelta: it answers true at every plan and all ints.
-/
import Derived.Test.YtonceehdmnkffaaGreatDoorJLFresh
import Derived.Test.YtonceehdmnkffaaGreatDoorMY
set_option linter.unusedSimpArgs false
namespace Go.Proofs.YtonceehdmnkffaaGreatDoor
open Go.RowKit Go.Sort Go.Lib

theorem numbersAre_no (e : Int) (w : World) (he : e ≠ 0) : Calls Tryz.prog 24 #[.slice none 0 0, .int .i64 e, .int .i64 e, .slice none 0 0] w fun r w' => r = .returned (.bool true) ∧ w' = w := by
  have hb : (e != 0) = true := by simp [he]
  have hbe : (e == e) = true := by simp
  go_enter Tryz.func24, Tryz.ntmps24
  go_wp2_with (go_at_call 25; refine (same_zero none none 0 0 _).mono ?_; rintro e w' ⟨rfl, rfl⟩)
  go_ret
  exact ⟨rfl, rfl⟩
theorem numbersAre_yes (g1 g2 n : Nat) (l : List Int) (w : World) (hl : l.length = n) (hn : n ≤ 30) (h1 : Own w g1 l) (h2 : Own w g2 l) : Calls Tryz.prog 24 #[.slice (some ⟨g1, 0, none⟩) n n, .int .i64 0, .int .i64 0, .slice (some ⟨g2, 0, none⟩) n n] w fun r w' => r = .returned (.bool true) ∧ Below w.heap.size w w' := by
  have HSM : Hid (Calls Tryz.prog 25 #[.slice (some ⟨g1, 0, none⟩) n n, .slice (some ⟨g2, 0, none⟩) n n] w fun e w' => e = .returned (.bool true) ∧ ∃ k, w' = w.drewN k) := Lib.hid (by
    have h := same_yes g1 0 n g2 0 n l w (by omega) h1.at h2.at
    rw [hl] at h
    exact h)
  clear h1 h2 hl
  go_enter Tryz.func24, Tryz.ntmps24
  go_wp2_with fail
  refine HSM.out.mono ?_
  rintro e w' ⟨rfl, k, rfl⟩
  go_wp2_with fail
  go_ret
  exact ⟨rfl, kbelow_dN (Below.refl _ _) _⟩
/-- Which error is due, of Delta. -/
def DeltaX (p : Pl) (frm to was is : Int) (nl ni : Nat) (er : Int) : Prop :=
  FreshX p frm to was nl ni er ∨ ((PlanIs p 0 ∧ AskOk frm to was ∧ to - frm < 60 ∧ ∃ (n : Nat) (y : Int) (s : List Int) (o : List (List Int)), frm + (n : Int) = to + 1 ∧ Runs p was frm nl ni n y s o) ∧ FreshX p frm to is nl ni er) ∨
    (er = 3 ∧ PlanIs p 0 ∧ AskOk frm to was ∧ AskOk frm to is ∧ to - frm < 60 ∧ ∃ (n : Nat) (ya : Int) (sa : List Int) (oa : List (List Int)) (yb : Int) (sb : List Int) (ob : List (List Int)), frm + (n : Int) = to + 1 ∧ Runs p was frm nl ni n ya sa oa ∧ Runs p is frm nl ni n yb sb ob ∧ ∃ i, i < nl ∧ monB (dltN oa ob i n) = false)
theorem DeltaX.unique {p : Pl} {frm to was is : Int} {nl ni : Nat} {er er' : Int} (h : DeltaX p frm to was is nl ni er) (h' : DeltaX p frm to was is nl ni er') : er = er' := by
  rcases h with h | ⟨⟨hp, ha, h60, n, y, s, o, hn, hr⟩, h⟩ | ⟨e, hp, ha, hb, h60, n, ya, sa, oa, yb, sb, ob, hn, hra, hrb, _⟩ <;> rcases h' with h' | ⟨⟨hp', ha', h60', n', y', s', o', hn', hr'⟩, h'⟩ | ⟨e', hp', ha', hb', h60', n', ya', sa', oa', yb', sb', ob', hn', hra', hrb', _⟩
  · exact h.unique h'
  · exact (h.no hp' ha' h60' hn' hr').elim
  · exact (h.no hp' ha' h60' hn' hra').elim
  · exact (h'.no hp ha h60 hn hr).elim
  · exact h.unique h'
  · exact (h.no hp' hb' h60' hn' hrb').elim
  · exact (h'.no hp ha h60 hn hra).elim
  · exact (h'.no hp hb h60 hn hrb).elim
  · rw [e, e']
theorem DeltaX.no {p : Pl} {frm to was is : Int} {nl ni : Nat} {er : Int} (h : DeltaX p frm to was is nl ni er) (h1 : p.lns.length = nl) (hp : PlanIs p 0) (ha : AskOk frm to was) (hb : AskOk frm to is) (h60 : to - frm < 60) {n : Nat} {ya yb : Int} {sa sb : List Int} {oa ob : List (List Int)} (hn : frm + n = to + 1) (hra : Runs p was frm nl ni n ya sa oa) (hrb : Runs p is frm nl ni n yb sb ob) (hm : ∀ i, i < nl → monB (dltN oa ob i n) = true) : False := by
  rcases h with h | ⟨_, h⟩ | ⟨_, _, _, _, _, n', ya', sa', oa', yb', sb', ob', hn', ra', rb', i, hi, hmi⟩
  · exact h.no hp ha h60 hn hra
  · exact h.no hp hb h60 hn hrb
  · obtain rfl : n = n' := by omega
    obtain ⟨_, _, rfl⟩ := Runs.det h1 hp.apart hra ra'
    obtain ⟨_, _, rfl⟩ := Runs.det h1 hp.apart hrb rb'
    rw [hm i hi] at hmi
    cases hmi
set_option maxRecDepth 100000 in
set_option maxHeartbeats 4000000 in
theorem walk_retroDelta (p : Pl) (al : Option Addr) (nl cl : Nat) (at' : Option Addr) (nt ct : Nat) (ai : Option Addr) (ni ci : Nat) (frm : Int) (_ : (Lit.int .i64 frm).wf = true) (to : Int) (wt : (Lit.int .i64 to).wf = true) (was : Int) (_ : (Lit.int .i64 was).wf = true) (is : Int) (_ : (Lit.int .i64 is).wf = true) {w : World} (hc : CameP w al at' ai p) (h1 : p.lns.length = nl) (h2 : p.tbs.length = nt) (h3 : p.ins.length = ni) (hS : Shp w) :
    Calls Tryz.prog 6 #[.agg #[.int .i64 p.K, .int .i64 p.A, .int .i64 p.L, .slice al nl cl, .slice at' nt ct, .slice ai ni ci], .int .i64 frm, .int .i64 to, .int .i64 was, .int .i64 is] w fun e w' => e = .returned (.bool true) ∧ Below w.heap.size w w' := by
  have HB0 := Lib.hid (kbelow_box w (.cells #[.int .i64 p.K, .int .i64 p.A, .int .i64 p.L, .slice al nl cl, .slice at' nt ct, .slice ai ni ci] 28))
  have HP0 := Lib.hid (PBox.made w p.K p.A p.L al at' ai nl nt ni cl ct ci)
  have HC := Lib.hid hc
  have HS := Lib.hid hS
  have H1 := Lib.hid h1
  have H2 := Lib.hid h2
  have H3 := Lib.hid h3
  have HT : Hid (to ≤ 9223372036854775807) := Lib.hid (wf_up wt)
  clear hS hc h1 h2 h3 wt
  obtain ⟨_, x0, x1, x2, x3, x4, x5⟩ := HP0.out
  go_enter Tryz.func6, Tryz.ntmps6
  go_wp2_with fail
  refine (Delta_any p al at' ai nl nt ni cl ct ci frm to was is _ (HS.out.below HB0.out) (HC.out.below HB0.out) H1.out H2.out H3.out HT.out).mono ?_
  rintro e w1 ⟨ra, ea, rfl, hfa, hb1⟩
  have HB1 := Lib.hid (HB0.out.trans (hb1.mono HB0.out.size))
  have HP1 := Lib.hid (HP0.out.below hb1 HP0.out.1)
  have HFA := Lib.hid hfa
  clear hb1 HP0 hfa x0 x1 x2 x3 x4 x5
  obtain ⟨_, x0, x1, x2, x3, x4, x5⟩ := HP1.out
  go_wp2_with fail
  refine (deltaOf_ref p al at' ai nl nt ni cl ct ci frm to was is _ (HC.out.below HB1.out) H1.out H2.out H3.out HT.out).mono ?_
  rintro e w2 ⟨rb, eb, rfl, hfb, hb2⟩
  have HB2 := Lib.hid (HB1.out.trans (hb2.mono HB1.out.size))
  have HB12 := Lib.hid hb2
  clear hb2 HP1 x0 x1 x2 x3 x4 x5
  rcases HFA.out with ⟨hea, hra, hxa⟩ | ⟨hea, hpl, haa, hab, h60, n, ya, sa, oa, yb, sb, ob, g1, hn, hruna, hrunb, hmm, hra, _, ho1⟩
  · have hxa' : DeltaX p frm to was is nl ni ea := by
      rcases hxa with h | ⟨h, h'⟩ | h
      · exact .inl (h.x hea H1.out H3.out w)
      · exact .inr (.inl ⟨h, h'.x hea H1.out H3.out w⟩)
      · exact .inr (.inr h)
    rcases hfb with ⟨heb, hrb, hxb⟩ | ⟨_, hpl, haa, hab, h60, n, ya, sa, oa, yb, sb, ob, g, hn, hruna, hrunb, hmm, _⟩
    · obtain rfl := hxa'.unique hxb
      subst hra hrb
      have HNE := Lib.hid hea
      clear hxa hxa' hxb HFA hea heb
      go_wp2_with fail
      refine (retroBegun_any _ (HS.out.below HB2.out)).mono ?_
      rintro e w3 ⟨rfl, hb3⟩
      have HB3 := Lib.hid (HB2.out.trans (hb3.mono HB2.out.size))
      clear hb3
      go_wp2_with fail
      refine (numbersAre_no ea _ HNE.out).mono ?_
      rintro e w' ⟨rfl, h'⟩
      subst w'
      go_wp2_with fail
      go_ret
      exact ⟨rfl, HB3.out⟩
    · exact (hxa'.no H1.out hpl haa hab h60 hn hruna hrunb hmm).elim
  · rcases hfb with ⟨heb, hrb, hxb⟩ | ⟨heb, _, _, _, _, n', ya', sa', oa', yb', sb', ob', g, hn', hruna', hrunb', _, hrb, ho2⟩
    · exact (DeltaX.no hxb H1.out hpl haa hab h60 hn hruna hrunb hmm).elim
    · subst hea heb
      obtain rfl : n = n' := by omega
      obtain ⟨_, _, rfl⟩ := Runs.det H1.out hpl.apart hruna hruna'
      obtain ⟨_, _, rfl⟩ := Runs.det H1.out hpl.apart hrunb hrunb'
      subst hra hrb
      have hnl : nl ≤ 30 := by have := hpl.small.1; have := H1.out; omega
      have HO1 := Lib.hid (own_blk ho1 (HB12.out.block g1 ho1.1) HB12.out.size)
      have HO2 := Lib.hid ho2
      clear ho1 ho2 hruna hrunb hruna' hrunb' HFA hpl haa hab hmm
      go_wp2_with fail
      refine (retroBegun_any _ (HS.out.below HB2.out)).mono ?_
      rintro e w3 ⟨rfl, hb3⟩
      have HB3 := Lib.hid (HB2.out.trans (hb3.mono HB2.out.size))
      have HNA := Lib.hid (numbersAre_yes g1 g nl (dltL oa ob nl n 0) w3 (dltL_len _ _ _ _ _) hnl (own_blk HO1.out (hb3.block g1 HO1.out.1) hb3.size) (own_blk HO2.out (hb3.block g HO2.out.1) hb3.size))
      clear hb3
      go_wp2_with fail
      refine HNA.out.mono ?_
      rintro e w4 ⟨rfl, hb4⟩
      have HB4 := Lib.hid (HB3.out.trans (hb4.mono HB3.out.size))
      clear hb4
      go_wp2_with fail
      go_ret
      exact ⟨rfl, HB4.out⟩
end Go.Proofs.YtonceehdmnkffaaGreatDoor
