/-
  The walk of the law StoreKeeps: it answers true at every input.
-/
import Derived.Test.YtdnngcibmkdhhaaStBeg
import Derived.Test.YtdnngcibmkdhhaaStRow
import Derived.Deep.RegionWith
import Derived.Handy
set_option linter.unusedSimpArgs false
namespace Go.Proofs.Ytdnngcibmkdhhaa
open Go.RowKit

theorem ndN_le (n : Int) : ndN n ≤ 100000 := by unfold ndN; split <;> (try split) <;> omega
/-- The numbers of a disk ahead of round j. -/
def PWr (D : Dk) (j : Nat) : Prop := (-9223372036854775808 ≤ D.pow ∧ D.pow ≤ 9223372036854775807) ∧ 0 ≤ D.wrt ∧ D.wrt ≤ 33 * j
/-- Where the law stands behind its first Open. -/
theorem law_start {w w1 w2 w4 : World} {b c : Nat} {x : Option Addr} {D : Dk} {v u : Value} (hb1 : Below w.heap.size w w1) (hd : DkAt w2 b x c D) (hb2 : Below w1.heap.size w1 w2) (hb4 : Below (w2.heap.size + 1) (w2.alloc (.cells #[.pointer (some ⟨b, 0, none⟩)] 24)) w4) :
    DkAt ((w4.alloc (.cells #[v] 26)).alloc (.cells #[u] 27)) b x c D ∧ (B1 ((w4.alloc (.cells #[v] 26)).alloc (.cells #[u] 27)) w2.heap.size (.pointer (some ⟨b, 0, none⟩)) ∧ B1 ((w4.alloc (.cells #[v] 26)).alloc (.cells #[u] 27)) w4.heap.size v ∧ B1 ((w4.alloc (.cells #[v] 26)).alloc (.cells #[u] 27)) (w4.heap.size + 1) u) ∧ Below w.heap.size w ((w4.alloc (.cells #[v] 26)).alloc (.cells #[u] 27)) := by
  have k0 := kbelow_box w2 (.cells #[.pointer (some ⟨b, 0, none⟩)] 24)
  have h0 : (w2.alloc (.cells #[.pointer (some ⟨b, 0, none⟩)] 24)).heap.size = w2.heap.size + 1 := by simp
  have k4 := kbelow_box w4 (.cells #[v] 26)
  have h4 : (w4.alloc (.cells #[v] 26)).heap.size = w4.heap.size + 1 := by simp
  have k5 := kbelow_box (w4.alloc (.cells #[v] 26)) (.cells #[u] 27)
  have s4 := hb4.size
  rw [h0] at s4
  rw [h4] at k5
  have o1 := one_of w2 (.pointer (some ⟨b, 0, none⟩)) 24
  have o2 := one_of w4 v 26
  have o3 := one_of (w4.alloc (.cells #[v] 26)) u 27
  rw [h4] at o3
  have q0 := hb1.size
  have q1 := hb2.size
  have p1 : B1 w4 w2.heap.size (.pointer (some ⟨b, 0, none⟩)) := B1.below (w := w2.alloc (.cells #[.pointer (some ⟨b, 0, none⟩)] 24)) o1 hb4 (by omega)
  have hd4 : DkAt w4 b x c D := (hd.below k0).below (by rw [h0]; exact hb4)
  refine ⟨(hd4.below k4).below (by rw [h4]; exact k5), ⟨(p1.below k4 (by omega)).below k5 (by omega), B1.below (w := w4.alloc (.cells #[v] 26)) o2 k5 (by omega), o3⟩, ?_⟩
  exact (((hb1.trans (hb2.mono q0)).trans (k0.mono (by omega))).trans (hb4.mono (by omega))).trans ((k4.mono (by omega)).trans (k5.mono (by omega)))
theorem LwI.drewN {w wr : World} {db sb eb b c q : Nat} {D : Dk} {x : Option Addr} {o : Bool} (h : LwI w wr db sb eb D b x c q o) (k : Nat) : LwI w (wr.drewN k) db sb eb D b x c q o :=
  ⟨h.1, h.2.1, h.2.2.1, h.2.2.2.1, h.2.2.2.2.1, kbelow_dN h.2.2.2.2.2 k⟩
theorem keep_off {D D' : Dk} {s : ByteArray} {v : Int} (h : KeepR D s D' v) : (v == 8) = false → D'.off = false := by
  rcases h.2.2.2 with ⟨rfl, h, _⟩ | ⟨rfl, _⟩
  · exact fun _ => h
  · exact fun h => absurd h (by decide)
set_option maxRecDepth 100000 in
set_option maxHeartbeats 4000000 in
theorem walk_storeKeeps (a0 : Int) (_ : (Lit.int .i64 a0).wf = true) (a1 : Int) (wf1 : (Lit.int .i64 a1).wf = true) (xl : Option Addr) (n cap : Nat) (l : List Kt) {w : World} (hc : CameKt w xl l) (hn : l.length = n) (hm : n ≤ maxLen) (hwf : ∀ j, j < n → KtWf (ktnth l j)) (hsz : n * 32 ≤ 140737488351232) :
    Calls Try.prog 3 #[.int .i64 a0, .int .i64 a1, .slice xl n cap] w fun e w' => e = .returned (.bool true) ∧ Below w.heap.size w w' := by
  have HC := Lib.hid hc
  have HN := Lib.hid hn
  have HWF := Lib.hid hwf
  have HSZ := Lib.hid hsz
  have hmx : n ≤ 9223372036854775807 := by unfold maxLen at hm; omega
  have HA1 : Hid (-9223372036854775808 ≤ a1 ∧ a1 ≤ 9223372036854775807) := Lib.hid (by simp only [Lit.wf, Bool.and_eq_true, decide_eq_true_eq] at wf1; exact wf1)
  clear hc hn hwf hm wf1 hsz
  go_enter Try.func3, Try.ntmps3
  go_wp2_with fail
  refine (begun_any _).mono ?_
  rintro e w1 ⟨rfl, hb1⟩
  have HB1 := Lib.hid hb1
  clear hb1
  go_wp2_with fail
  refine (newDisk_any a0 a1 _).mono ?_
  rintro e w2 ⟨b, x, c, rfl, hbw, hd, hx, hb2⟩
  have HD := Lib.hid hd
  have HX := Lib.hid hx
  have HB2 := Lib.hid hb2
  have HNL := Lib.hid (ndN_le a0)
  have k0 := kbelow_box w2 (.cells #[.pointer (some ⟨b, 0, none⟩)] 24)
  have HD3 := Lib.hid (hd.below k0)
  have h3 : (w2.alloc (.cells #[.pointer (some ⟨b, 0, none⟩)] 24)).heap.size = w2.heap.size + 1 := by simp
  have HH3 := Lib.hid h3
  generalize ndN a0 = N at *
  clear hd hx hb2 k0 h3
  by_cases h80 : N < 80
  · have HOP := Lib.hid (open_few b x c _ _ HD3.out (by simpa using h80))
    rw [HH3.out] at HOP
    go_wp2_with fail
    refine HOP.out.mono ?_
    rintro e w4 ⟨rfl, hb4⟩
    obtain ⟨hd5, ⟨y1, y2, y3⟩, hB5⟩ := law_start (v := .pointer none) (u := .int .i64 2) HB1.out HD.out HB2.out hb4
    have HSC := Lib.hid (diskSectors_any b x c _ _ hd5)
    have HB5 := Lib.hid hB5
    have hN : ((List.replicate N zero64).length : Int) < 80 := by simp; omega
    obtain ⟨z1, _⟩ := y1
    obtain ⟨z2, _⟩ := y2
    obtain ⟨z3, _⟩ := y3
    clear hb4 hd5 hB5
    go_wp2_with fail
    refine HSC.out.mono ?_
    rintro e w' ⟨rfl, h'⟩
    subst w'
    go_wp2_with fail
    go_ret
    exact ⟨rfl, HB5.out⟩
  · have HOP := Lib.hid (open_any b x c _ _ HD3.out (gs_new (by omega) HNL.out) rfl)
    rw [HH3.out] at HOP
    have hmf : ∀ (fn : Fn) (first cap : Array Value) (w : World), (Instr.makeFunc fn first cap).run Try.prog w = .ok (.func fn first cap) w := fun _ _ _ _ => rfl
    go_wp2_with fail
    refine HOP.out.mono ?_
    rintro e w4 ⟨q, rfl, hq, hs4, hb4⟩
    obtain ⟨hd5, hy5, hB5⟩ := law_start (v := .pointer (some ⟨q, 0, none⟩)) (u := .int .i64 0) HB1.out HD.out HB2.out hb4
    have hs5 : StAt ((w4.alloc (.cells #[.pointer (some ⟨q, 0, none⟩)] 26)).alloc (.cells #[.int .i64 0] 27)) q b false := (hs4.below (kbelow_box w4 _) hs4.lt).below (kbelow_box _ _) (by have := hs4.lt; simp; omega)
    have HI0 : Hid (LwI w ((w4.alloc (.cells #[.pointer (some ⟨q, 0, none⟩)] 26)).alloc (.cells #[.int .i64 0] 27)) w2.heap.size w4.heap.size (w4.heap.size + 1) ⟨List.replicate N zero64, a1, 0, false⟩ b x c q false ∧ Bxs w.heap.size w2.heap.size w4.heap.size (w4.heap.size + 1)) := by
      have q0 := HB1.out.size
      have q1 := HB2.out.size
      have q2 := HD.out.lt
      have q3 := HD.out.xlt (by simp; omega)
      have q4 := hs4.lt
      have q5 := HX.out
      have q6 := hb4.size
      rw [HH3.out] at q6
      exact ⟨⟨⟨hd5, hs5, gs_new (by omega) HNL.out, fun _ => rfl⟩, hy5, ⟨⟨by omega, by omega, fun a ha => by have := q3 a ha; omega⟩, ⟨by omega, by omega, fun a ha => by have := q3 a ha; omega⟩, ⟨by omega, by omega, fun a ha => by have := q3 a ha; omega⟩⟩, ⟨by omega, fun a ha => by have := q3 a ha; omega⟩, ⟨by omega, by omega, fun a ha => by have := q5 a ha; omega⟩, hB5⟩, ⟨by omega, by omega, by omega⟩, by omega, by omega, by omega⟩
    obtain ⟨y1, y2, y3⟩ := hy5
    have HSC := Lib.hid (diskSectors_any b x c _ _ hd5)
    have HOD := Lib.hid (opened_any w4.heap.size (w4.heap.size + 1) w2.heap.size q _ y2 y3)
    have hN : ¬ ((List.replicate N zero64).length : Int) < 80 := by simp; omega
    obtain ⟨z1, _⟩ := y1
    clear hb4 hd5 hB5 hs5 hs4 y2 y3
    go_wp2_with fail
    refine HSC.out.mono ?_
    rintro e w' ⟨rfl, h'⟩
    subst w'
    go_wp2_with fail
    refine HOD.out.mono ?_
    rintro e w' ⟨rfl, h'⟩
    subst w'
    generalize (w4.alloc (.cells #[.pointer (some ⟨q, 0, none⟩)] 26)).alloc (.cells #[.int .i64 0] 27) = w5 at *
    generalize w4.heap.size + 1 = eb at *
    generalize w4.heap.size = sb at *
    generalize w2.heap.size = db at *
    have HBX := Lib.hid HI0.out.2
    clear HOD HSC HOP z1
    have HQ := Lib.hid hq
    clear hN hq h80
    go_wp2_with fail
    go_loopw [14, 11, 12, 13] (fun i kk mm oo wr => ∃ (j : Nat) (D : Dk) (b : Nat) (x : Option Addr) (c q : Nat) (o : Bool) (M : ByteArray), j ≤ n ∧ i = .int .i64 j ∧ kk = .string (keptT D.secs) ∧ mm = .string M ∧ oo = .bool o ∧ PWr D j ∧ LwI w wr db sb eb D b x c q o) (fun i _ _ _ _ => n - (intOf i).toNat)
    case atStart => exact ⟨0, _, b, x, c, q, false, ⟨#[]⟩, Nat.zero_le _, rfl, by rw [kept_new (by omega)], rfl, rfl, ⟨HA1.out, Int.le_refl _, Int.le_refl _⟩, HI0.out.1⟩
    case round =>
      clear HI0 HD3 HD HX HB2 HB1 HH3 HQ hbw
      obtain ⟨j, D, b, x, c, q, o, M, hj, rfl, rfl, rfl, rfl, hp, hI⟩ := hrel
      have HP := Lib.hid hp
      have HI := Lib.hid hI
      generalize hK : keptT D.secs = K at *
      have HK := Lib.hid hK
      clear hp hI hK
      by_cases hlt : j < n
      · have hlt' : (j : Int) < (n : Int) := by omega
        obtain ⟨bl, off, rfl, hbl, hat⟩ := HC.out.open (by rw [HN.out]; omega)
        obtain ⟨t0, t1, t2⟩ := (hat wr HI.out.2.2.2.2.2 j (by rw [HN.out]; exact hlt))
        have HWR := Lib.hid (HWF.out j hlt)
        have HRT := Lib.hid (fun ws hb => (hat ws hb j (by rw [HN.out]; exact hlt)).1)
        generalize ktnth l j = r at *
        obtain ⟨rt, rc, rp⟩ := r
        replace t0 : wr.cell? ⟨bl, off + j * 3, none⟩ = some (.string rt) := t0
        replace t1 : wr.cell? ⟨bl, off + j * 3 + 1, none⟩ = some (.bool rc) := t1
        replace t2 : wr.cell? ⟨bl, off + j * 3 + 2, none⟩ = some (.int .i64 rp) := t2
        have HRX : Hid (∀ ws, Below w.heap.size w ws → ws.cell? ⟨bl, off + j * 3, none⟩ = some (.string rt)) := HRT
        clear HRT
        obtain ⟨y1, y2, y3⟩ := HI.out.2.1
        have Y2 := Lib.hid y2
        have Y3 := Lib.hid y3
        obtain ⟨z1, f1⟩ := y1
        clear y2 y3 hat
        cases rc
        · obtain ⟨z2, _⟩ := Y2.out
          have HW1 := Lib.hid (diskWrites_any b x c D wr HI.out.1.1)
          have hsz := HSZ.out
          have hpw := HP.out
          cases o
          · by_cases hbig : 2000 < rt.size
            · have HSV := Lib.hid (save_long q b rt wr.drew HI.out.drew.1.2.1 hbig)
              have hbig' : (2000 : Int) < (rt.size : Int) := by omega
              go_wp2_with (go_at_call 12; refine HW1.out.mono ?_; rintro e w' ⟨rfl, h'⟩; subst w')
              go_region_with (go_at_call 13; refine HSV.out.mono ?_; rintro e ws ⟨v, rfl, rfl, hss, hks⟩; have HI2 := Lib.hid (HI.out.drew.text hss hks); obtain ⟨⟨p1, _⟩, ⟨p2, _⟩, ⟨p3, _⟩⟩ := HI2.out.2.1; have i0 := HRX.out ws HI2.out.2.2.2.2.2; clear hss hks)
              all_goals
                have HW2 := Lib.hid (diskWrites_any b x c D ws HI2.out.1.1)
                have HT := Lib.hid (text_any q b x c D ws HI2.out.1.1 HI2.out.1.2.1 HI2.out.1.2.2.1 (HI2.out.1.2.2.2 rfl))
                rw [HK.out] at HT
                go_wp2_with (go_at_call 12; refine HW2.out.mono ?_; rintro e w' ⟨rfl, h'⟩; subst w')
                go_wp2_with (go_at_call 11; refine HT.out.mono ?_; rintro e we ⟨rfl, hse, hke⟩; have HI3 := Lib.hid (HI2.out.text hse hke); clear hse hke)
                go_roundw
                case rel => exact ⟨j + 1, D, b, x, c, q, false, M, by omega, by go_num, by rw [HK.out], rfl, rfl, ⟨HP.out.1, HP.out.2.1, by have := HP.out.2.2; omega⟩, HI3.out⟩
                case measure => simp [intOf]; omega
            · have HSV := Lib.hid (save_any q b x c D rt wr.drew HI.out.drew.1.1 HI.out.drew.1.2.1 HI.out.1.2.2.1 (HI.out.1.2.2.2 rfl) ⟨HP.out.1, HP.out.2.1, by have := HP.out.2.2; omega⟩ HI.out.2.2.2.1.1 HI.out.2.2.2.1.2 (by omega))
              have hbig' : ¬ (2000 : Int) < (rt.size : Int) := by omega
              go_wp2_with (go_at_call 12; refine HW1.out.mono ?_; rintro e w' ⟨rfl, h'⟩; subst w')
              go_region_with (go_at_call 13; refine HSV.out.mono ?_; rintro e ws ⟨v, rfl, D', hk, hd', hs', hq'⟩; have HKR := Lib.hid hk; have HI2 := Lib.hid (HI.out.drew.kq hq' hd' hs' hk.1 (keep_off hk)); obtain ⟨⟨p1, _⟩, ⟨p2, _⟩, ⟨p3, _⟩⟩ := HI2.out.2.1; have i0 := HRX.out ws HI2.out.2.2.2.2.2; clear hk hd' hs' hq')
              all_goals
                obtain ⟨g', hp', hw', hc'⟩ := HKR.out
                have HPP := Lib.hid hp'
                have HWW := Lib.hid hw'
                have h41 : IntKind.i64.wrap (D'.wrt - D.wrt) = D'.wrt - D.wrt := IntWalk.i64_in _ (by omega)
                have h42 : ¬ 40 < D'.wrt - D.wrt := by omega
                have HW2 := Lib.hid (diskWrites_any b x c D' ws HI2.out.1.1)
                clear g' hp' hw'
                rcases hc' with ⟨rfl, ho', hkt⟩ | ⟨rfl, ho', hkt, -⟩
                · have HT := Lib.hid (fun k => text_any q b x c D' (ws.drewN k) (HI2.out.drewN k).1.1 (HI2.out.drewN k).1.2.1 HI2.out.1.2.2.1 ho')
                  rw [hkt] at HT
                  have HKT := Lib.hid hkt
                  clear hkt
                  go_wp2_with (go_at_call 12; refine HW2.out.mono ?_; rintro e w' ⟨rfl, h'⟩; subst w')
                  go_quiet (fail)
                  go_wp2_with (go_at_call 11; refine (HT.out _).mono ?_; rintro e we ⟨rfl, hse, hke⟩; have HI3 := Lib.hid ((HI2.out.drewN _).text hse hke); clear hse hke)
                  go_roundw
                  case rel => exact ⟨j + 1, D', b, x, c, q, false, rt, by omega, by go_num, by rw [HKT.out], rfl, rfl, ⟨HPP.out, by have := HWW.out; have := HP.out.2.1; omega, by have := HWW.out; have := HP.out.2.2; omega⟩, HI3.out⟩
                  case measure => simp [intOf]; omega
                · have HOF := Lib.hid (diskOff_any b x c D' ws HI2.out.1.1)
                  rw [ho'] at HOF
                  have HT := Lib.hid (text_off q b ws HI2.out.1.2.1)
                  have HKT : Hid (keptT D'.secs = K) := Lib.hid (by rw [hkt]; exact HK.out)
                  clear hkt ho'
                  go_wp2_with (go_at_call 12; refine HW2.out.mono ?_; rintro e w' ⟨rfl, h'⟩; subst w')
                  go_wp2_with (go_at_call 9; refine HOF.out.mono ?_; rintro e w' ⟨rfl, h'⟩; subst w')
                  go_wp2_with (go_at_call 11; refine HT.out.mono ?_; rintro e we ⟨rfl, hbe⟩; have HI3 := Lib.hid (HI2.out.off hbe); clear hbe)
                  go_roundw
                  case rel => exact ⟨j + 1, D', b, x, c, q, true, rt, by omega, by go_num, by rw [HKT.out], rfl, rfl, ⟨HPP.out, by have := HWW.out; have := HP.out.2.1; omega, by have := HWW.out; have := HP.out.2.2; omega⟩, HI3.out⟩
                  case measure => simp [intOf]; omega
          · have HSV := Lib.hid (save_off q b rt wr.drew HI.out.drew.1.2.1)
            go_wp2_with (go_at_call 12; refine HW1.out.mono ?_; rintro e w' ⟨rfl, h'⟩; subst w')
            go_region_with (go_at_call 13; refine HSV.out.mono ?_; rintro e ws ⟨v, rfl, rfl, hbs⟩; have HI2 := Lib.hid (HI.out.drew.off hbs); obtain ⟨⟨p1, _⟩, ⟨p2, _⟩, ⟨p3, _⟩⟩ := HI2.out.2.1; have i0 := HRX.out ws HI2.out.2.2.2.2.2; clear hbs)
            all_goals
              have HW2 := Lib.hid (diskWrites_any b x c D ws HI2.out.1.1)
              have HT := Lib.hid (text_off q b ws HI2.out.1.2.1)
              go_wp2_with (go_at_call 12; refine HW2.out.mono ?_; rintro e w' ⟨rfl, h'⟩; subst w')
              go_wp2_with (go_at_call 11; refine HT.out.mono ?_; rintro e we ⟨rfl, hbe⟩; have HI3 := Lib.hid (HI2.out.off hbe); clear hbe)
              go_roundw
              case rel => exact ⟨j + 1, D, b, x, c, q, true, M, by omega, by go_num, by rw [HK.out], rfl, rfl, ⟨HP.out.1, HP.out.2.1, by have := HP.out.2.2; omega⟩, HI3.out⟩
              case measure => simp [intOf]; omega
        · have HAF := Lib.hid (after_any b x c D rp wr.drew HI.out.drew.1.1 (by have := HI.out.1.2.2.1.1.1; omega) HI.out.1.2.2.1.1.2)
          go_wp2_with fail
          go_region_with (go_at_call 10; refine HAF.out.mono ?_; rintro e wa ⟨b', x', c', rfl, hb', hda, hx', hba⟩; have HDA := Lib.hid hda; have HXA := Lib.hid hx'; have HBA := Lib.hid hba; have HBB := Lib.hid hb'; have ya := B1.below (w := wr.drew) (k := db) (v := .pointer (some ⟨b, 0, none⟩)) ⟨z1, f1⟩ hba HI.out.2.1.1.lt; obtain ⟨za, fa⟩ := ya; clear hda hx' hba hb')
          all_goals
            have ldb : db < wr.heap.size := HI.out.2.1.1.lt
            have hbb : wr.heap.size ≤ b' := HBB.out
            have hxa : ∀ a, x' = some a → wr.heap.size ≤ a.block := HXA.out
            have hse : (wa.setCell ⟨db, 0, none⟩ (.pointer (some ⟨b', 0, none⟩))).heap.size = wa.heap.size := by simp
            have HOP := Lib.hid (open_any b' x' c' ⟨D.secs, rp, 0, false⟩ (wa.setCell ⟨db, 0, none⟩ (.pointer (some ⟨b', 0, none⟩))) (HDA.out.set1 (by omega) (fun a ha => by have := hxa a ha; omega) _) HI.out.1.2.2.1 rfl)
            rw [hse] at HOP
            clear hxa
            go_wp2_with fail
            refine HOP.out.mono ?_
            rintro e wc ⟨q', rfl, hq', hsc, hbc⟩
            have HI' := Lib.hid (LwI.cut HI.out.drew HBX.out HBB.out HDA.out HXA.out HBA.out hq' hsc hbc)
            obtain ⟨-, ⟨s2, f2⟩, ⟨s3, f3⟩, ⟨s4, f4⟩⟩ := LwI.cutB HI.out.drew HBX.out HBA.out hbc q'
            have HOD := Lib.hid (opened_any sb eb db q' _ HI'.out.2.1.2.1 HI'.out.2.1.2.2)
            have s5 := HI'.out.2.1.2.1.1
            have HT := Lib.hid (text_any q' b' x' c' _ _ HI'.out.1.1 HI'.out.1.2.1 HI'.out.1.2.2.1 rfl)
            rw [show keptT (Dk.secs ⟨D.secs, rp, 0, false⟩) = K from HK.out] at HT
            clear hbc hsc HOP
            go_wp2_with fail
            refine HOD.out.mono ?_
            rintro e w' ⟨rfl, h'⟩
            subst w'
            go_wp2_with fail
            refine HT.out.mono ?_
            rintro e we ⟨rfl, hse, hke⟩
            have HI2 := Lib.hid (HI'.out.text hse hke)
            clear hse hke
            go_wp2_with fail
            go_roundw
            case rel => exact ⟨j + 1, _, b', x', c', q', false, K, by omega, by go_num, by rw [show keptT (Dk.secs ⟨D.secs, rp, 0, false⟩) = K from HK.out], rfl, rfl, ⟨by have h := HWR.out.2; simp only [Lit.wf, Bool.and_eq_true, decide_eq_true_eq] at h; exact h, Int.le_refl _, by show (0 : Int) ≤ 33 * ((j + 1 : Nat) : Int); omega⟩, HI2.out⟩
            case measure => simp [intOf]; omega
      · obtain rfl : j = n := by omega
        have hlt' : ¬ (j : Int) < (j : Int) := by omega
        have HBW := Lib.hid HI.out.2.2.2.2.2
        go_wp2_with fail
        go_ret
        exact ⟨rfl, HBW.out⟩
end Go.Proofs.Ytdnngcibmkdhhaa
