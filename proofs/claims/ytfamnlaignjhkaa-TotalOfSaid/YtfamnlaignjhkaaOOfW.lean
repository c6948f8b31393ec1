/-
  Promise M3: the walks of Of, of the reference's TotalsOf and SameAmounts.
-/
import Derived.Test.YtfamnlaignjhkaaOOf
namespace Go.Proofs.Ytfamnlaignjhkaa
open Go.RowKit Go.Sort

set_option maxRecDepth 100000 in
set_option maxHeartbeats 1000000 in
theorem sameAmounts_yes (x y : Option Addr) (n c d : Nat) (l : List Ao) (w : World) (hx : CameAo w x l) (hy : CameAo w y l) (hn : l.length = n) (h24 : n ≤ 1000) :
    Calls Try.prog 20 #[.slice x n c, .slice y n d] w fun e w' => e = .returned (.bool true) ∧ Go.RowKit.Below w.heap.size w w' := by
  have HX := Lib.hid hx
  have HY := Lib.hid hy
  clear hx hy
  have e2 : ((n : Int) != (n : Int)) = false := by simp
  go_enter Try.func20, Try.ntmps20
  go_wp2_with fail
  go_loopw [5] (fun i wr => ∃ k : Nat, k ≤ n ∧ i = .int .i64 k ∧ Go.RowKit.Below w.heap.size w wr) (fun i _ => n - (intOf i).toNat)
  case atStart => exact ⟨0, Nat.zero_le _, rfl, Below.refl _ _⟩
  case round =>
    obtain ⟨k, hk, rfl, hbr⟩ := hrel
    have HBW := Lib.hid hbr
    clear hbr
    by_cases hlt : k < n
    · have hlt' : (k : Int) < (n : Int) := by omega
      obtain ⟨b, off, rfl, hcell⟩ := HX.out.open hn (by omega)
      obtain ⟨b', off', rfl, hcell'⟩ := HY.out.open hn (by omega)
      obtain ⟨u0, u1⟩ := hcell wr HBW.out k hlt
      obtain ⟨v0, v1⟩ := hcell' wr HBW.out k hlt
      clear hcell hcell'
      generalize (aonth l k).nam = f at *
      generalize (aonth l k).mon = r at *
      have n0 : (f.toList != f.toList) = false := by simp
      have n1 : (r != r) = false := by simp
      go_wp2_with fail
      go_quiet (fail)
      go_wp2_with fail
      go_roundw
      case rel => exact ⟨k + 1, by omega, by go_num, obelow_dN HBW.out _⟩
      case measure => simp [intOf]; omega
    · have hnl : decide ((k : Int) < (n : Int)) = false := decide_eq_false (by omega)
      go_wp2_with fail
      go_ret
      exact ⟨rfl, HBW.out⟩
set_option maxRecDepth 100000 in
set_option maxHeartbeats 2000000 in
theorem totalsOf_ref (a : Option Addr) (n cap : Nat) (l : List Tt) (p y : Int) (w : World) (hc : CameO w a l) (hn : l.length = n) (h4 : n ≤ 400) :
    Calls Try.prog 19 #[.slice a n cap, .int .i64 p, .int .i64 y] w fun e w' => ∃ x c, e = .returned (.slice x (ofL p y l).length c) ∧ CameAo w' x (ofL p y l) ∧ Go.RowKit.Below w.heap.size w w' := by
  have HO := Lib.hid (fun h0 => hc.open hn h0)
  have HN := Lib.hid hn
  have HL4 : Hid (l.length ≤ 400) := Lib.hid (by omega)
  clear hc hn
  go_enter Try.func19, Try.ntmps19
  go_wp2_with fail
  go_loopw [7, 8] (fun sv i wr => ∃ k : Nat, k ≤ n ∧ i = .int .i64 k ∧ GrowA wr w.heap.size sv (ofL p y (l.take k)) ∧ Go.RowKit.Below w.heap.size w wr) (fun _ i _ => n - (intOf i).toNat)
  case atStart => exact ⟨0, Nat.zero_le _, rfl, GrowA.nil _ _, Below.refl _ _⟩
  case round =>
    obtain ⟨k, hk, rfl, hg, hb⟩ := hrel
    obtain ⟨x9, c9, hlv, hcm⟩ := hg.slice
    subst hlv
    have HG := Lib.hid hg
    have HB := Lib.hid hb
    have HCM := Lib.hid hcm
    have hbz := hb.size
    clear hg hb hcm
    by_cases hlt : k < n
    · have hlt' : (k : Int) < (n : Int) := by omega
      obtain ⟨b, off, rfl, hcell⟩ := HO.out (by omega)
      obtain ⟨x0, x1, x2, x3⟩ := hcell _ HB.out k hlt
      clear hcell HCM
      have HST := Lib.hid (ofL_step (p := p) (y := y) (l := l) (k := k) (by rw [HN.out]; exact hlt))
      have HNY : Hid (pyB p y (onth l k) = (((onth l k).per == p) && ((onth l k).yr == y))) := rfl
      have HLK : Hid ((ofL p y (l.take k)).length ≤ 400) := Lib.hid (by have := ofL_len p y (l.take k); rw [List.length_take] at this; have := HL4.out; omega)
      obtain ⟨t, ht⟩ : ∃ t, onth l k = t := ⟨_, rfl⟩
      rw [ht] at x0 x1 x2 x3 HST HNY
      clear ht
      cases h1 : (t.per == p)
      · rw [h1] at HNY
        rw [HNY.out] at HST
        generalize (ofL p y (l.take k)).length = m9 at *
        go_wp2_with fail
        go_roundw
        case rel => exact ⟨k + 1, by omega, by go_num, by rw [HST.out]; simpa using HG.out, HB.out⟩
        case measure => simp [intOf]; omega
      · cases h2 : (t.yr == y)
        · rw [h1, h2] at HNY
          rw [HNY.out] at HST
          generalize (ofL p y (l.take k)).length = m9 at *
          go_wp2_with fail
          go_roundw
          case rel => exact ⟨k + 1, by omega, by go_num, by rw [HST.out]; simpa using HG.out, HB.out⟩
          case measure => simp [intOf]; omega
        · rw [h1, h2] at HNY
          rw [HNY.out] at HST
          obtain ⟨L9, hL9⟩ : ∃ L, ofL p y (l.take k) = L := ⟨_, rfl⟩
          rw [hL9] at HG HST HLK ⊢
          clear hL9
          obtain ⟨m9, hm9⟩ : ∃ m, L9.length = m := ⟨_, rfl⟩
          rw [hm9] at HG ⊢
          have HLM : Hid (L9.length ≤ 1000) := Lib.hid (by have := HLK.out; omega)
          clear hm9
          go_wp2_with fail
          go_region_law (refine step_app_ao _ rfl (.tmp 31) (.tmp 43) rfl w.heap.size (.slice x9 m9 c9) L9 (by simp [Act.eval]) (by first | exact HG.out.alloc _ | exact GrowA.alloc (w := wr.drew) HG.out _) wr.heap.size 1 t.nam t.mon (by simp [Act.eval]) (by simp) (by simp) HLM.out (by simp; omega) ?_
                         intro v9 w9 hg9 hb9
                         have HG9 := Lib.hid hg9
                         have HB9 := Lib.hid hb9
                         clear hg9 hb9)
          all_goals go_wp2_with fail
          all_goals go_roundw
          all_goals first
            | (refine ⟨k + 1, by omega, by go_num, by rw [HST.out]; exact HG9.out, HB.out.trans (Below.trans ?_ HB9.out)⟩
               first | exact ((Below.refl _ _).alloc hbz _).drew | exact (Below.refl _ _).drew.alloc hbz _)
            | (simp [intOf]; omega)
    · have hkn : k = n := by omega
      subst hkn
      have HTK : Hid (l.take k = l) := Lib.hid (by rw [← HN.out, List.take_length])
      rw [HTK.out] at HCM ⊢
      generalize hm9 : (ofL p y l).length = m9 at *
      have HM9 := Lib.hid hm9
      clear hm9
      go_wp2_with fail
      go_ret
      exact ⟨x9, c9, by rw [HM9.out]; rfl, HCM.out, HB.out⟩
/-- What Of answers. -/
def ofE (l : List Tt) (p y : Int) : Int := if totE l = 0 then (if perB p = true ∧ yrB y = true then 0 else 3) else totE l
def ofR (l : List Tt) (p y : Int) : List Ao := if ofE l p y = 0 then ofL p y l else []
def OfRet (l : List Tt) (p y : Int) (w : World) (e : Ending) (w' : World) : Prop := ∃ x c, e = .returned (.tuple #[.slice x (ofR l p y).length c, .int .i64 (ofE l p y)]) ∧ CameAo w' x (ofR l p y) ∧ Go.RowKit.Below w.heap.size w w'
theorem OfRet.err {l : List Tt} {p y : Int} {w w' : World} {er : Int} (he : ofE l p y = er) (h0 : er ≠ 0) (hb : Go.RowKit.Below w.heap.size w w') : OfRet l p y w (.returned (.tuple #[.slice none 0 0, .int .i64 er])) w' := by
  have e : ofR l p y = [] := by unfold ofR; rw [he, if_neg h0]
  exact ⟨none, 0, by rw [e, he]; rfl, .inl (by rw [e]; rfl), hb⟩
set_option maxRecDepth 100000 in
set_option maxHeartbeats 2000000 in
theorem Of_any (a : Option Addr) (n cap : Nat) (l : List Tt) (p y : Int) (w : World) (hc : CameO w a l) (hn : l.length = n) (hm : n ≤ maxLen) :
    Calls Try.prog 18 #[.slice a n cap, .int .i64 p, .int .i64 y] w fun e w' => OfRet l p y w e w' := by
  have HC := Lib.hid hc
  have HM := Lib.hid hm
  have HN := Lib.hid hn
  have HE : Hid (ofE l p y = if totE l = 0 then (if perB p = true ∧ yrB y = true then 0 else 3) else totE l) := rfl
  clear hc hn hm
  go_enter Try.func18, Try.ntmps18
  go_wp2_with fail
  refine (Check_any a n cap l _ HC.out HN.out HM.out).mono ?_
  rintro e w1 ⟨rfl, hb⟩
  have HB1 := Lib.hid hb
  have HC1 := Lib.hid (HC.out.below hb)
  clear hb
  by_cases h0 : totE l = 0
  · rw [if_pos h0] at HE
    rw [h0]
    cases hp : perB p
    · have HR : Hid (ofE l p y = 3) := Lib.hid (by rw [HE.out, hp]; simp)
      clear h0
      go_wp2_with (first | (go_at_call 37; refine (isPerson_any _ _).mono ?_; rintro e w' ⟨rfl, h'⟩; subst w'; rw [hp]))
      go_ret2
      exact OfRet.err HR.out (by decide) HB1.out
    · cases hy : yrB y
      · have HR : Hid (ofE l p y = 3) := Lib.hid (by rw [HE.out, hp, hy]; simp)
        clear h0
        go_wp2_with (first | (go_at_call 37; refine (isPerson_any _ _).mono ?_; rintro e w' ⟨rfl, h'⟩; subst w'; rw [hp]) | (go_at_call 38; refine (isYear_any _ _).mono ?_; rintro e w' ⟨rfl, h'⟩; subst w'; rw [hy]))
        go_ret2
        exact OfRet.err HR.out (by decide) HB1.out
      · have HR : Hid (ofE l p y = 0) := Lib.hid (by rw [HE.out, hp, hy]; simp)
        have HRL : Hid (ofR l p y = ofL p y l) := Lib.hid (by unfold ofR; rw [HR.out, if_pos rfl])
        have HO := Lib.hid (fun h0 => HC1.out.open HN.out h0)
        have HL4 := Lib.hid (totE_ok h0).2.1
        have hn63 : n ≤ 9223372036854775807 := by have := (totE_ok h0).2.1; have := HN.out; omega
        clear h0
        go_wp2_with (first | (go_at_call 37; refine (isPerson_any _ _).mono ?_; rintro e w' ⟨rfl, h'⟩; subst w'; rw [hp]) | (go_at_call 38; refine (isYear_any _ _).mono ?_; rintro e w' ⟨rfl, h'⟩; subst w'; rw [hy]))
        go_loopw [9, 27] (fun sv i wr => ∃ k : Nat, k ≤ n ∧ i = .int .i64 k ∧ GrowA wr w1.heap.size sv (ofL p y (l.take k)) ∧ Go.RowKit.Below w1.heap.size w1 wr) (fun _ i _ => n - (intOf i).toNat)
        case atStart => exact ⟨0, Nat.zero_le _, rfl, GrowA.nil _ _, Below.refl _ _⟩
        case round =>
          obtain ⟨k, hk, rfl, hg, hb⟩ := hrel
          obtain ⟨x9, c9, hlv, hcm⟩ := hg.slice
          subst hlv
          have HG := Lib.hid hg
          have HB := Lib.hid hb
          have HCM := Lib.hid hcm
          have hbz := hb.size
          clear hg hb hcm
          by_cases hlt : k < n
          · have hlt' : (k : Int) < (n : Int) := by omega
            obtain ⟨b, off, rfl, hcell⟩ := HO.out (by omega)
            obtain ⟨x0, x1, x2, x3⟩ := hcell _ HB.out k hlt
            clear hcell HCM
            have HST := Lib.hid (ofL_step (p := p) (y := y) (l := l) (k := k) (by rw [HN.out]; exact hlt))
            have HNY : Hid (pyB p y (onth l k) = (((onth l k).per == p) && ((onth l k).yr == y))) := rfl
            have HLK : Hid ((ofL p y (l.take k)).length ≤ 400) := Lib.hid (by have := ofL_len p y (l.take k); rw [List.length_take] at this; have := HL4.out; omega)
            obtain ⟨t, ht⟩ : ∃ t, onth l k = t := ⟨_, rfl⟩
            rw [ht] at x0 x1 x2 x3 HST HNY
            clear ht
            have HBX := Lib.hid (HB.out.alloc HB.out.size (.cells #[.int .i64 t.per, .string t.nam, .int .i64 t.yr, .int .i64 t.mon] 50))
            have HGX := Lib.hid (HG.out.alloc (.cells #[.int .i64 t.per, .string t.nam, .int .i64 t.yr, .int .i64 t.mon] 50))
            cases h1 : (t.per == p)
            · rw [h1] at HNY
              rw [HNY.out] at HST
              generalize (ofL p y (l.take k)).length = m9 at *
              go_wp2_with fail
              go_roundw
              case rel => exact ⟨k + 1, by omega, by go_num, by rw [HST.out]; simpa using HGX.out, HBX.out⟩
              case measure => simp [intOf]; omega
            · cases h2 : (t.yr == y)
              · rw [h1, h2] at HNY
                rw [HNY.out] at HST
                generalize (ofL p y (l.take k)).length = m9 at *
                go_wp2_with fail
                go_roundw
                case rel => exact ⟨k + 1, by omega, by go_num, by rw [HST.out]; simpa using HGX.out, HBX.out⟩
                case measure => simp [intOf]; omega
              · rw [h1, h2] at HNY
                rw [HNY.out] at HST
                obtain ⟨L9, hL9⟩ : ∃ L, ofL p y (l.take k) = L := ⟨_, rfl⟩
                rw [hL9] at HG HGX HST HLK ⊢
                clear hL9
                obtain ⟨m9, hm9⟩ : ∃ m, L9.length = m := ⟨_, rfl⟩
                rw [hm9] at HG HGX ⊢
                have HLM : Hid (L9.length ≤ 1000) := Lib.hid (by have := HLK.out; omega)
                have HGY := Lib.hid (HGX.out.alloc (.cells #[.string t.nam, .int .i64 t.mon] 60))
                have HBY := Lib.hid (HBX.out.alloc HBX.out.size (.cells #[.string t.nam, .int .i64 t.mon] 60))
                have HBZ : Hid (w1.heap.size ≤ ((wr.alloc (.cells #[.int .i64 t.per, .string t.nam, .int .i64 t.yr, .int .i64 t.mon] 50)).alloc (.cells #[.string t.nam, .int .i64 t.mon] 60)).heap.size) := Lib.hid (by simp; omega)
                clear hm9
                go_wp2_with (first | (at_builtin; refine wpList_app_ao _ rfl _ _ rfl w1.heap.size (.slice x9 m9 c9) L9 rfl HGY.out (wr.heap.size + 1) 1 t.nam t.mon rfl (by simp) (by simp) HLM.out HBZ.out ?_; intro v' w2 hgr2 hbel2))
                go_roundw
                case rel => exact ⟨k + 1, by omega, by go_num, by rw [HST.out]; exact hgr2, HBY.out.trans hbel2⟩
                case measure => simp [intOf]; omega
          · have hkn : k = n := by omega
            subst hkn
            have HTK : Hid (l.take k = l) := Lib.hid (by rw [← HN.out, List.take_length])
            rw [HTK.out] at HCM ⊢
            generalize hm9 : (ofL p y l).length = m9 at *
            have HM9 := Lib.hid hm9
            clear hm9
            go_wp2_with fail
            go_ret2
            exact ⟨x9, c9, by rw [HRL.out, HR.out, HM9.out]; rfl, by rw [HRL.out]; exact HCM.out, HB1.out.trans (HB.out.mono HB1.out.size)⟩
  · rw [if_neg h0] at HE
    have h0' : (totE l != 0) = true := by simp [h0]
    obtain ⟨c, hc⟩ : ∃ c, totE l = c := ⟨_, rfl⟩
    rw [hc] at HE h0' h0 ⊢
    have H0 := Lib.hid h0
    clear h0 hc
    go_wp2_with fail
    go_ret2
    exact OfRet.err HE.out H0.out HB1.out
end Go.Proofs.Ytfamnlaignjhkaa
