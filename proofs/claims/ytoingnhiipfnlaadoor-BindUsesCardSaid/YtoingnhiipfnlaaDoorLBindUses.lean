/-
  Promise H3: the walks of the reference's Names and UsesOf, and of the law BindUses: it answers true at every input.
-/
import Derived.Test.YtoingnhiipfnlaaDoorNBegunW
namespace Go.Proofs.YtoingnhiipfnlaaDoor
open Go.RowKit

theorem optI_eq (o : Option Nat) (j : Nat) : decide (optI o = (j : Int)) = decide (o = some j) := by
  cases o with
  | none => simp [optI]
  | some v =>
    simp only [optI, Option.some.injEq]
    exact decide_eq_decide.2 (by omega)
theorem anyN_hit {f : Nat → Bool} {m j : Nat} (hj : j < m) (he : f j = true) : anyN f m = true := by
  induction m with
  | zero => omega
  | succ q ih =>
    by_cases e : j = q
    · subst e; simp [anyN, he]
    · simp [anyN, ih (by omega)]
set_option maxRecDepth 100000 in
set_option maxHeartbeats 2000000 in
theorem names_ref (a : Option Addr) (n0 cap : Nat) (l : List Ln) (p o : Nat) (hn : l.length = n0) (hm0 : n0 ≤ maxLen) (hp : p ≤ n0) (x : Ex) : ∀ (ax : Option Addr) (cx : Nat) (w : World), KidsAt w x ax → CameL w a l →
    Calls Tryd.prog 41 #[.agg #[.int .i64 x.k, .int .i64 x.n, .string x.s, .slice ax x.m cx], .slice a n0 cap, .int .i64 p, .int .i64 o] w fun e w' => e = .returned (.bool (x.hit (lastN (fun j => (lnth l j).name) p) o)) ∧ Below w.heap.size w w' := by
  have HN := Lib.hid hn
  have HM0 := Lib.hid hm0
  have HP0 := Lib.hid hp
  clear hn hm0 hp
  obtain ⟨g, hg⟩ : ∃ g, g = lastN (fun j => (lnth l j).name) p := ⟨_, rfl⟩
  rw [← hg]
  have HGE := Lib.hid hg
  clear hg
  induction x with
  | no => intro ax cx w h; exact h.elim
  | mk kk n s m kid ih =>
    intro ax cx w hk hl
    show Calls Tryd.prog 41 #[.agg #[.int .i64 kk, .int .i64 n, .string s, .slice ax m cx], .slice a n0 cap, .int .i64 p, .int .i64 o] w _
    have hm : m ≤ 9223372036854775807 := by have := hk.many; unfold maxLen at this; exact this
    have HK := Lib.hid hk
    have HL := Lib.hid hl
    have HIH := Lib.hid ih
    have HM := Lib.hid (hit_mk g o kk n s m kid)
    clear hk hl ih
    generalize (Ex.mk kk n s m kid).hit g o = z at *
    have HB2 := Lib.hid (kbelow_box w (.cells #[.int .i64 kk, .int .i64 n, .string s, .slice ax m cx] 50))
    have HX2 := Lib.hid (XBox.made w kk n s ax m cx 50)
    by_cases hk2 : kk = 2
    · have HQ : Hid (∀ b, decide (g s = some o) = b → (decide (kk = 2) && decide (g s = some o)) = b) := fun b h => by rw [h, hk2]; rfl
      have hkT : decide (kk = 2) = true := decide_eq_true hk2
      have hkE : (kk == 2) = true := by simpa using hk2
      clear hk2
      go_enter Tryd.func41, Tryd.ntmps41
      go_wp2_with fail
      refine (lineAt_ref a n0 cap l s p _ (HL.out.below HB2.out) HN.out HM0.out HP0.out).mono ?_
      rintro e w1 ⟨rfl, hb1⟩
      have HB1 := HB2
      have HX1 := HX2
      clear HB2 HX2
      have HB2 := Lib.hid (HB1.out.trans (hb1.mono HB1.out.size))
      have HX2 := Lib.hid (HX1.out.below hb1)
      clear hb1 HB1 HX1
      obtain ⟨_, v0, v1, v2, v3⟩ := HX2.out
      have hoe := optI_eq (lastN (fun j => (lnth l j).name) p s) o
      rw [← HGE.out] at hoe
      rw [← HGE.out]
      cases ho : decide (g s = some o)
      · rw [ho] at hoe
        have hoE : (optI (g s) == (o : Int)) = false := by simpa using hoe
        have HP := Lib.hid (HQ.out false ho)
        clear ho HQ
        generalize optI (g s) = r at *
        go_wp2_with fail
        go_loopw [9] (fun i wr => ∃ j : Nat, j ≤ m ∧ i = .int .i64 j ∧ anyN (fun i => (kid i).hit g o) j = false ∧ XBox wr w.heap.size kk n s ax m cx ∧ Below w.heap.size w wr) (fun i _ => m - (intOf i).toNat)
        case atStart => exact ⟨0, Nat.zero_le _, rfl, rfl, HX2.out, HB2.out⟩
        case round =>
          obtain ⟨j, hj, rfl, hf, hx, hb⟩ := hrel
          have HF := Lib.hid hf
          have HX := Lib.hid hx
          have HB := Lib.hid hb
          clear hf hx hb
          obtain ⟨_, v0, v1, v2, v3⟩ := HX.out
          by_cases hlt : j < m
          · have hlt' : (j : Int) < (m : Int) := by omega
            obtain ⟨b, off, rfl, hcell⟩ := HK.out.open (show 0 < m by omega)
            obtain ⟨aj, cj, ⟨x0, x1, x2, x3⟩, hkj⟩ := hcell wr HB.out j hlt
            have HKJ := Lib.hid hkj
            clear hcell hkj
            have x0' : wr.cell? ⟨b, off + j * 4, none⟩ = some (.int .i64 (kid j).k) := x0
            have x1' : wr.cell? ⟨b, off + j * 4 + 1, none⟩ = some (.int .i64 (kid j).n) := x1
            have x2' : wr.cell? ⟨b, off + j * 4 + 2, none⟩ = some (.string (kid j).s) := x2
            have x3' : wr.cell? ⟨b, off + j * 4 + 3, none⟩ = some (.slice aj (kid j).m cj) := x3
            clear x0 x1 x2 x3
            go_wp2_with fail
            refine (HIH.out j aj cj _ HKJ.out (HL.out.below HB.out)).mono ?_
            rintro e w9 ⟨rfl, hb9⟩
            have HB9 := Lib.hid (HB.out.trans (hb9.mono HB.out.size))
            have HX9 := Lib.hid (HX.out.below hb9)
            clear hb9 x0' x1' x2' x3' v0 v1 v2 v3
            cases hz : (kid j).hit g o
            · have HF1 : Hid (anyN (fun i => (kid i).hit g o) (j + 1) = false) := by unfold Hid; simp only [anyN]; rw [HF.out, hz]; rfl
              go_wp2_with fail
              go_roundw
              case rel => exact ⟨j + 1, by omega, by go_num, HF1.out, HX9.out, HB9.out⟩
              case measure => simp [intOf]; omega
            · have HR : Hid (z = true) := by unfold Hid; rw [HM.out, anyN_hit (f := fun i => (kid i).hit g o) hlt hz, Bool.or_true]
              go_wp2_with fail
              go_ret
              exact ⟨kret_bool HR.out.symm, HB9.out⟩
          · have hjm : j = m := by omega
            subst hjm
            have HR : Hid (z = false) := by unfold Hid; rw [HM.out, HF.out, HP.out]; rfl
            go_wp2_with fail
            go_ret
            exact ⟨kret_bool HR.out.symm, HB.out⟩
      · rw [ho] at hoe
        have hoE : (optI (g s) == (o : Int)) = true := by simpa using hoe
        have HR : Hid (z = true) := by unfold Hid; rw [HM.out, HQ.out true ho]; rfl
        clear ho HQ
        generalize optI (g s) = r at *
        go_wp2_with fail
        go_ret
        exact ⟨kret_bool HR.out.symm, HB2.out⟩
    · have hkB : decide (kk = 2) = false := decide_eq_false hk2
      have hkE : (kk == 2) = false := by simpa using hk2
      have HP : Hid ((decide (kk = 2) && decide (g s = some o)) = false) := by unfold Hid; rw [hkB]; rfl
      go_enter Tryd.func41, Tryd.ntmps41
      go_wp2_with fail
      go_loopw [9] (fun i wr => ∃ j : Nat, j ≤ m ∧ i = .int .i64 j ∧ anyN (fun i => (kid i).hit g o) j = false ∧ XBox wr w.heap.size kk n s ax m cx ∧ Below w.heap.size w wr) (fun i _ => m - (intOf i).toNat)
      case atStart => exact ⟨0, Nat.zero_le _, rfl, rfl, HX2.out, HB2.out⟩
      case round =>
        obtain ⟨j, hj, rfl, hf, hx, hb⟩ := hrel
        have HF := Lib.hid hf
        have HX := Lib.hid hx
        have HB := Lib.hid hb
        clear hf hx hb
        obtain ⟨_, v0, v1, v2, v3⟩ := HX.out
        by_cases hlt : j < m
        · have hlt' : (j : Int) < (m : Int) := by omega
          obtain ⟨b, off, rfl, hcell⟩ := HK.out.open (show 0 < m by omega)
          obtain ⟨aj, cj, ⟨x0, x1, x2, x3⟩, hkj⟩ := hcell wr HB.out j hlt
          have HKJ := Lib.hid hkj
          clear hcell hkj
          have x0' : wr.cell? ⟨b, off + j * 4, none⟩ = some (.int .i64 (kid j).k) := x0
          have x1' : wr.cell? ⟨b, off + j * 4 + 1, none⟩ = some (.int .i64 (kid j).n) := x1
          have x2' : wr.cell? ⟨b, off + j * 4 + 2, none⟩ = some (.string (kid j).s) := x2
          have x3' : wr.cell? ⟨b, off + j * 4 + 3, none⟩ = some (.slice aj (kid j).m cj) := x3
          clear x0 x1 x2 x3
          go_wp2_with fail
          refine (HIH.out j aj cj _ HKJ.out (HL.out.below HB.out)).mono ?_
          rintro e w9 ⟨rfl, hb9⟩
          have HB9 := Lib.hid (HB.out.trans (hb9.mono HB.out.size))
          have HX9 := Lib.hid (HX.out.below hb9)
          clear hb9 x0' x1' x2' x3' v0 v1 v2 v3
          cases hz : (kid j).hit g o
          · have HF1 : Hid (anyN (fun i => (kid i).hit g o) (j + 1) = false) := by unfold Hid; simp only [anyN]; rw [HF.out, hz]; rfl
            go_wp2_with fail
            go_roundw
            case rel => exact ⟨j + 1, by omega, by go_num, HF1.out, HX9.out, HB9.out⟩
            case measure => simp [intOf]; omega
          · have HR : Hid (z = true) := by unfold Hid; rw [HM.out, anyN_hit (f := fun i => (kid i).hit g o) hlt hz, Bool.or_true]
            go_wp2_with fail
            go_ret
            exact ⟨kret_bool HR.out.symm, HB9.out⟩
        · have hjm : j = m := by omega
          subst hjm
          have HR : Hid (z = false) := by unfold Hid; rw [HM.out, HF.out, HP.out]; rfl
          go_wp2_with fail
          go_ret
          exact ⟨kret_bool HR.out.symm, HB.out⟩
theorem direct_take {l : List Ln} {p i j : Nat} (h : i ≤ p) : directB (l.take (p + 1)) i j = directB l i j := by
  unfold directB
  rw [lnth_take (by omega), lastN_congr (h := fun j => (lnth l j).name) (fun j hj => by rw [lnth_take (by omega)])]
theorem anyN_mono {f : Nat → Bool} {m : Nat} (h : anyN f m = true) : ∃ j, j < m ∧ f j = true := by
  induction m with
  | zero => cases h
  | succ q ih =>
    simp only [anyN, Bool.or_eq_true] at h
    rcases h with h | h
    · obtain ⟨j, h1, h2⟩ := ih h
      exact ⟨j, by omega, h2⟩
    · exact ⟨q, by omega, h⟩
theorem hit_lt {g : ByteArray → Option Nat} {i j : Nat} (hg : ∀ s p, g s = some p → p < i) (x : Ex) : x.hit g j = true → j < i := by
  induction x with
  | no => intro h; cases h
  | mk k n s m kid ih =>
    intro h
    rw [hit_mk] at h
    simp only [Bool.or_eq_true, Bool.and_eq_true, decide_eq_true_eq] at h
    rcases h with ⟨_, h⟩ | h
    · exact hg s j h
    · obtain ⟨q, _, h2⟩ := anyN_mono h
      exact ih q h2
theorem direct_lt {l : List Ln} {i j : Nat} (h : directB l i j = true) : j < i := hit_lt (fun _ _ h => lastN_lt h) _ h
/-- What hangs, when t lines have been looked at: the line itself, and those that are used. -/
def hangN (l : List Ln) (p t j : Nat) : Bool := decide (j = p) || usedN (l.take (p + 1)) p t j
theorem hangN_succ {l : List Ln} {p t i : Nat} (hi : i + t = p) (j : Nat) : hangN l p (t + 1) j = (hangN l p t j || (hangN l p t i && directB l i j)) := by
  have e : p - t = i := by omega
  unfold hangN
  rw [usedN_succ, e, direct_take (show i ≤ p by omega)]
  by_cases h0 : t = 0
  · have hip : i = p := by omega
    rw [if_pos (.inl h0)]
    simp [hip, Bool.or_assoc]
  · have hip : i ≠ p := by omega
    cases hu : usedN (l.take (p + 1)) p t i
    · rw [if_neg (by simp [h0])]
      simp [hip]
    · rw [if_pos (.inr rfl)]
      simp [Bool.or_assoc]
theorem placesOf_congr {u v : Nat → Bool} : ∀ {n : Nat}, (∀ j, j < n → u j = v j) → placesOf u n = placesOf v n
  | 0, _ => rfl
  | n + 1, h => by
    simp only [placesOf]
    rw [h n (by omega), placesOf_congr (n := n) (fun j hj => h j (by omega))]
theorem hang_places (l : List Ln) (p : Nat) : placesOf (hangN l p (p + 1)) p = placesOf (usedN (l.take (p + 1)) p (p + 1)) p :=
  placesOf_congr (fun j hj => by unfold hangN; rw [decide_eq_false (by omega)]; rfl)

def UsesOfIs (w : World) (l : List Ln) (p : Nat) (e : Ending) (w' : World) : Prop := ∃ v, e = .returned v ∧ Grow w' (w.heap.size + 1) v (placesOf (usedN (l.take (p + 1)) p (p + 1)) p) ∧ Below w.heap.size w w'
set_option maxRecDepth 100000 in
set_option maxHeartbeats 2000000 in
theorem usesOf_ref (a : Option Addr) (n cap : Nat) (l : List Ln) (p : Nat) (w : World) (hl : CameL w a l) (hn : l.length = n) (hm : n ≤ 40) (hp : p < n) :
    Calls Tryd.prog 16 #[.slice a n cap, .int .i64 p] w fun e w' => UsesOfIs w l p e w' := by
  have HL := Lib.hid hl
  have HN := Lib.hid hn
  have HCELL := Lib.hid (hl.open hn (by omega))
  have hmk := run_make_row' (P := Tryd.prog) 75 4 (.bool false) 1 Tryd.underlying75 info_b rfl .i64 .i64 n (by omega) (by omega)
  have hp' : (p : Int) < (n : Int) := by omega
  clear hl hn
  have HU0 : Hid (URow ((w.alloc (.cells (madeCells #[.bool false] n) 4)).setCell ⟨w.heap.size, p, none⟩ (.bool true)) w.heap.size n (hangN l p 0)) := ((URow.made w n).put hp).congr (fun j _ => by simp [hangN, usedN, eq_comm])
  have HB0 := Lib.hid ((kbelow_box w (.cells (madeCells #[.bool false] n) 4)).setCell (p := ⟨w.heap.size, p, none⟩) (Nat.le_refl _) (.bool true))
  have hww : ((w.alloc (.cells (madeCells #[.bool false] n) 4)).setCell ⟨w.heap.size, p, none⟩ (.bool true)) = w.alloc (.cells ((madeCells #[.bool false] n).setIfInBounds p (.bool true)) 4) := by first | simp [go_sem] | simp [World.setCell, World.alloc] | rfl
  rw [hww] at HU0 HB0
  clear hww
  obtain ⟨r0, r1⟩ := (URow.made w n).2 p hp
  go_enter Tryd.func16, Tryd.ntmps16
  go_wp2_with fail
  clear r0 r1
  go_loopw [6] (fun i wr => ∃ t : Nat, t ≤ p + 1 ∧ i = .int .i64 ((p : Int) - t) ∧ URow wr w.heap.size n (hangN l p t) ∧ Below w.heap.size w wr) (fun i _ => (intOf i + 1).toNat)
  case atStart => exact ⟨0, Nat.zero_le _, by go_num, HU0.out, HB0.out⟩
  case round =>
    clear HU0 HB0
    obtain ⟨t, ht, rfl, hu, hb⟩ := hrel
    have HU := Lib.hid hu
    have HB := Lib.hid hb
    clear hu hb
    by_cases hlt : t ≤ p
    · obtain ⟨i, hit⟩ : ∃ i : Nat, i + t = p := ⟨p - t, by omega⟩
      rw [show (p : Int) - (t : Int) = (i : Int) by omega]
      have HIT := Lib.hid hit
      have hip : i ≤ p := by omega
      have hi0 : (0 : Int) ≤ (i : Int) := by omega
      have hin : (i : Int) < (n : Int) := by omega
      have HS := Lib.hid (fun j => hangN_succ (l := l) hit j)
      clear hit
      obtain ⟨h0, hh0⟩ : ∃ h0, h0 = hangN l p t := ⟨_, rfl⟩
      rw [← hh0] at HU HS
      have HH0 := Lib.hid hh0
      clear hh0
      go_wp2_with fail
      go_loopw [7] (fun kv wq => ∃ k : Nat, k ≤ i ∧ kv = .int .i64 k ∧ URow wq w.heap.size n (fun j => h0 j || (decide (j < k) && (h0 i && directB l i j))) ∧ Below w.heap.size w wq) (fun kv _ => i - (intOf kv).toNat)
      case atStart => exact ⟨0, Nat.zero_le _, rfl, HU.out.congr (fun j _ => by simp), HB.out⟩
      case round =>
        clear HU HB
        generalize wr = wr0 at *
        obtain ⟨k, hk, rfl, hu, hb⟩ := hrel
        have HU := Lib.hid hu
        have HB := Lib.hid hb
        clear hu hb
        by_cases hki : k < i
        · have hki' : (k : Int) < (i : Int) := by omega
          have hkn : (k : Int) < (n : Int) := by omega
          obtain ⟨s0, s1⟩ := HU.out.2 i (by omega)
          obtain ⟨q0, q1⟩ := HU.out.2 k (by omega)
          have s2 : wr0.cell? ⟨w.heap.size, i, none⟩ = some (.bool (h0 i)) := by rw [s0]; simp [show ¬ i < k by omega]
          clear s0
          have s0 := s2
          clear s2
          by_cases hct : h0 i = true
          rotate_left
          · have hc : h0 i = false := by simpa using hct
            rw [hc] at s0
            have HU2 : Hid (URow wr0 w.heap.size n (fun j => h0 j || (decide (j < k + 1) && (h0 i && directB l i j)))) := HU.out.congr (fun j _ => by rw [hc]; simp)
            clear hc hct q0 q1
            go_wp2_with fail
            go_roundw
            case rel => exact ⟨k + 1, by omega, by go_num, HU2.out, HB.out⟩
            case measure => simp [intOf]; omega
          · have hc : h0 i = true := hct
            rw [hc] at s0
            obtain ⟨b, off, rfl, hcell⟩ := HCELL.out
            obtain ⟨aj, cj, ⟨x0, x1, x2, x3, x4, x5⟩, _, hkj⟩ := hcell wr0 HB.out i (by omega)
            have HKJ := Lib.hid hkj
            clear hcell hkj q0 q1
            go_wp2_with fail
            refine (names_ref _ n cap l i k HN.out (by unfold maxLen; omega) (by omega) (lnth l i).ex aj cj _ HKJ.out (HL.out.below HB.out)).mono ?_
            rintro e w2 ⟨rfl, hb2⟩
            have HB2 := Lib.hid (HB.out.trans (hb2.mono HB.out.size))
            have HU1 := Lib.hid (HU.out.below hb2)
            have hd : (lnth l i).ex.hit (lastN (fun j => (lnth l j).name) i) k = directB l i k := rfl
            rw [hd]
            clear hb2 x0 x1 x2 x3 x4 x5 s0 s1 hd
            obtain ⟨q0, q1⟩ := HU1.out.2 k (by omega)
            cases hdk : directB l i k
            · have HU2 : Hid (URow w2 w.heap.size n (fun j => h0 j || (decide (j < k + 1) && (h0 i && directB l i j)))) := HU1.out.congr (fun j _ => by
                by_cases e : j = k
                · subst e; rw [hdk]; simp
                · rw [show decide (j < k + 1) = decide (j < k) from decide_eq_decide.2 (by omega)])
              clear hdk q0 q1 hc hct
              go_wp2_with fail
              go_roundw
              case rel => exact ⟨k + 1, by omega, by go_num, HU2.out, HB2.out⟩
              case measure => simp [intOf]; omega
            · have HU2 : Hid (URow (w2.setCell ⟨w.heap.size, k, none⟩ (.bool true)) w.heap.size n (fun j => h0 j || (decide (j < k + 1) && (h0 i && directB l i j)))) := (HU1.out.put (p := k) (by omega)).congr (fun j _ => by
                by_cases e : j = k
                · subst e; rw [hdk, hc]; simp
                · rw [show decide (j < k + 1) = decide (j < k) from decide_eq_decide.2 (by omega), decide_eq_false (show ¬ k = j by omega), Bool.or_false])
              have HB3 := Lib.hid (HB2.out.setCell (p := ⟨w.heap.size, k, none⟩) (Nat.le_refl _) (.bool true))
              clear hdk hc hct
              go_wp2_with fail
              go_roundw
              case rel => exact ⟨k + 1, by omega, by go_num, HU2.out, HB3.out⟩
              case measure => simp [intOf]; omega
        · have hkB : decide ((k : Int) < (i : Int)) = false := decide_eq_false (by omega)
          have HU2 : Hid (URow wr0 w.heap.size n (hangN l p (t + 1))) := HU.out.congr (fun j _ => by
            rw [HS.out j]
            have hki2 : k = i := by omega
            subst hki2
            cases hd : directB l k j
            · simp
            · rw [decide_eq_true (direct_lt hd)]; simp)
          go_wp2_with fail
          go_roundw
          case rel => exact ⟨t + 1, by have := HIT.out; omega, by have := HIT.out; go_num, HU2.out, HB.out⟩
          case measure => simp [intOf]
    · have hte : t = p + 1 := by omega
      have HUF : Hid (URow wr w.heap.size n (hangN l p (p + 1))) := by rw [← hte]; exact HU.out
      have hneg : (p : Int) - (t : Int) < 0 := by omega
      have hnegB : decide (0 ≤ (p : Int) - (t : Int)) = false := decide_eq_false (by omega)
      have HB0 := HB
      clear HU HB hte ht hlt
      go_wp2_with fail
      generalize (p : Int) - (t : Int) = zt at *
      clear hneg hnegB
      generalize decide (t ≤ p) = bt at *
      obtain ⟨uu, huu⟩ : ∃ uu, uu = hangN l p (p + 1) := ⟨_, rfl⟩
      rw [← huu] at HUF
      have HUU := Lib.hid huu
      clear huu
      go_loopw [8, 9] (fun sv i wq => ∃ j : Nat, j ≤ p ∧ i = .int .i64 j ∧ Grow wq (w.heap.size + 1) sv (placesOf uu j) ∧ URow wq w.heap.size n uu ∧ Below w.heap.size w wq) (fun _ i _ => p - (intOf i).toNat)
      case atStart => exact ⟨0, Nat.zero_le _, rfl, Grow.nil _ _, HUF.out, HB0.out⟩
      case round =>
        clear HUF HB0
        generalize wr = wr0 at *
        obtain ⟨j, hj, rfl, hgr, hu, hb⟩ := hrel
        have HG := Lib.hid hgr
        have HU := Lib.hid hu
        have HB := Lib.hid hb
        clear hgr hu hb
        by_cases hlt : j < p
        · have hlt' : (j : Int) < (p : Int) := by omega
          have hlt2 : (j : Int) < (n : Int) := by omega
          obtain ⟨r0, _⟩ := HU.out.2 j (by omega)
          have hlen := placesOf_len uu j
          have HSZ := Lib.hid HU.out.1
          cases hv : uu j
          · rw [hv] at r0
            have HP : Hid (placesOf uu (j + 1) = placesOf uu j) := by unfold Hid; simp [placesOf, hv]
            clear hv
            go_wp2_with fail
            go_roundw
            case rel => exact ⟨j + 1, by omega, by go_num, by rw [HP.out]; exact HG.out, HU.out, HB.out⟩
            case measure => simp [intOf]; omega
          · rw [hv] at r0
            have HP : Hid (placesOf uu (j + 1) = placesOf uu j ++ [(j : Int)]) := by unfold Hid; simp [placesOf, hv]
            clear hv
            go_wp2_with (at_builtin; refine wpList_app _ rfl _ _ rfl (w.heap.size + 1) _ (placesOf uu j) rfl ?hgw ⟨_, 0, none⟩ 1 (j : Int) rfl ?hz ?hl ?hB ?_; rotate_right; intro v9 w9 hg9 hgr9 hd9 hs9; refine Hid.out ?_)
            case hgw => exact HG.out.alloc _
            case hz => simp
            case hl => omega
            case hB => have := HSZ.out; simp; omega
            have HB9 := Lib.hid ((HB.out.alloc HB.out.size _).grown hgr9 (by have := HB.out.size; simp; omega) (fun i hi => by have := (HG.out.lt i hi).1; omega))
            have HU9 := Lib.hid ((HU.out.below (kbelow_box _ _)).kept hgr9 (by intro e; have := (HG.out.lt _ e.symm).1; omega))
            have HG9 := Lib.hid hg9
            clear hg9 hgr9 hd9 hs9 r0
            refine Lib.hid ?_
            go_wp2_with fail
            go_roundw
            case rel => exact ⟨j + 1, by omega, by go_num, by rw [HP.out]; exact HG9.out, HU9.out, HB9.out⟩
            case measure => simp [intOf]; omega
        · have hjq : j = p := by omega
          subst hjq
          go_wp2_with fail
          go_ret
          exact ⟨_, rfl, by rw [← hang_places, ← HUU.out]; exact HG.out, HB.out⟩

theorem same_zero (x y : Option Addr) (c d : Nat) (w : World) : Calls Tryd.prog 25 #[.slice x 0 c, .slice y 0 d] w fun e w' => e = .returned (.bool true) ∧ w' = w := by
  go_enter Tryd.func25, Tryd.ntmps25
  go_wp2
  go_loop [5] (fun i => i = .int .i64 0) (fun _ => 0)
  case atStart => rfl
  case round =>
    subst hrel
    go_wp2
    go_ret
    exact ⟨rfl, rfl⟩
theorem numbersAre_bad (e : Int) (w : World) (he : e ≠ 0) : Calls Tryd.prog 17 #[.slice none 0 0, .int .i64 e, .int .i64 e, .slice none 0 0] w fun r w' => r = .returned (.bool true) ∧ w' = w := by
  have hb : (e != 0) = true := by simp [he]
  go_enter Tryd.func17, Tryd.ntmps17
  go_wp2_with (go_at_call 25; refine (same_zero _ _ _ _ _).mono ?_; rintro e w' ⟨rfl, rfl⟩)
  go_ret
  exact ⟨kret_bool (by simp), rfl⟩
theorem numbersAre_zero (x y : Option Addr) (c d : Nat) (w : World) : Calls Tryd.prog 17 #[.slice x 0 c, .int .i64 0, .int .i64 0, .slice y 0 d] w fun r w' => r = .returned (.bool true) ∧ w' = w := by
  go_enter Tryd.func17, Tryd.ntmps17
  go_wp2_with (go_at_call 25; refine (same_zero _ _ _ _ _).mono ?_; rintro e w' ⟨rfl, rfl⟩)
  go_ret
  exact ⟨rfl, rfl⟩
theorem numbersAre_ok (b1 c1 b2 c2 : Nat) (l : List Int) (w : World) (hl : l.length ≤ 1000000000) (h1 : At w b1 0 l) (h2 : At w b2 0 l) :
    Calls Tryd.prog 17 #[.slice (some ⟨b1, 0, none⟩) l.length c1, .int .i64 0, .int .i64 0, .slice (some ⟨b2, 0, none⟩) l.length c2] w fun r w' => r = .returned (.bool true) ∧ ∃ k, w' = w.drewN k := by
  have HS : Hid (Calls Tryd.prog 25 #[.slice (some ⟨b1, 0, none⟩) l.length c1, .slice (some ⟨b2, 0, none⟩) l.length c2] w fun e w' => e = .returned (.bool true) ∧ ∃ k, w' = w.drewN k) := same_yes b1 0 c1 b2 0 c2 l w hl h1 h2
  clear h1 h2 hl
  generalize l.length = n at *
  go_enter Tryd.func17, Tryd.ntmps17
  go_wp2_with (go_at_call 25; refine HS.out.mono ?_; rintro e w' ⟨rfl, k, rfl⟩)
  go_ret
  exact ⟨rfl, _, rfl⟩
/-- A slice that holds a list: of length 0, or a row of its own. -/
theorem grow_cases {w : World} {B : Nat} {v : Value} {l : List Int} (h : Grow w B v l) : (l.length = 0 ∧ ∃ x c, v = .slice x 0 c) ∨ ∃ g c, v = .slice (some ⟨g, 0, none⟩) l.length c ∧ At w g 0 l := by
  by_cases h0 : 0 < l.length
  · obtain ⟨g, c, e, _, ho⟩ := h.own h0
    exact .inr ⟨g, c, e, nown_at ho⟩
  · have hl : l.length = 0 := by omega
    refine .inl ⟨hl, ?_⟩
    obtain ⟨_, h2⟩ := h
    rcases h2 with ⟨rfl, _⟩ | ⟨g, c, cur, rfl, _⟩
    · exact ⟨_, _, rfl⟩
    · exact ⟨_, c, by rw [hl]⟩
/-- Both answers are the same list. -/
theorem both_same {w : World} {B B' : Nat} {v v' : Value} {l : List Int} {w0 : World} (h : Grow w0 B v l) (hb : Below w0.heap.size w0 w) {w1 : World} (h' : Grow w1 B' v' l) (hb' : Below w1.heap.size w1 w) (hl : l.length ≤ 1000000000) :
    Calls Tryd.prog 17 #[v, .int .i64 0, .int .i64 0, v'] w fun r w' => r = .returned (.bool true) ∧ ∃ k, w' = w.drewN k := by
  rcases grow_cases h with ⟨hz, x, c, rfl⟩ | ⟨g, c, rfl, ha⟩ <;> rcases grow_cases h' with ⟨hz', x', c', rfl⟩ | ⟨g', c', rfl, ha'⟩
  · exact (numbersAre_zero x x' c c' w).mono fun _ _ ⟨e1, e2⟩ => ⟨e1, 0, e2⟩
  · rw [hz]
    exact (numbersAre_zero x _ c c' w).mono fun _ _ ⟨e1, e2⟩ => ⟨e1, 0, e2⟩
  · rw [hz']
    exact (numbersAre_zero _ x' c c' w).mono fun _ _ ⟨e1, e2⟩ => ⟨e1, 0, e2⟩
  · exact numbersAre_ok g c g' c' l w hl (ha.below hb ha.1) (ha'.below hb' ha'.1)
set_option maxRecDepth 100000 in
set_option maxHeartbeats 1000000 in
theorem walk_bindUses (a : Option Addr) (n cap : Nat) (l : List Ln) (line : Int) (_ : (Lit.int .i64 line).wf = true) {w : World} (hl : CameL w a l) (hn : l.length = n) (hm : n ≤ maxLen) (hcap : n ≤ cap) (hcm : cap ≤ maxLen) (hS : Shp w) :
    Calls Tryd.prog 5 #[.slice a n cap, .int .i64 line] w fun e w' => e = .returned (.bool true) ∧ Below w.heap.size w w' := by
  have hm' : n ≤ 9223372036854775807 := by unfold maxLen at hm; omega
  have HL := Lib.hid hl
  have HN := Lib.hid hn
  have HM := Lib.hid hm
  have HS := Lib.hid hS
  have HU := Lib.hid (Uses_any a n cap l line w hS hl hn hcap hcm)
  clear hl hn hm hS hcm hcap
  go_enter Tryd.func5, Tryd.ntmps5
  go_wp2_with fail
  refine HU.out.mono ?_
  rintro e w1 ⟨v, er, rfl, hu, hb1⟩
  have HUI := Lib.hid hu
  have HB1 := Lib.hid hb1
  clear hu hb1 HU
  go_wp2_with fail
  refine (checkLines_ref a n cap l _ (HL.out.below HB1.out) HN.out HM.out).mono ?_
  rintro e w2 ⟨rfl, hb2⟩
  have HB2 := Lib.hid (HB1.out.trans (hb2.mono HB1.out.size))
  have HY2 := Lib.hid hb2
  clear hb2
  rcases HUI.out with ⟨z1, rfl, rfl⟩ | ⟨z1, hr, rfl, rfl⟩ | ⟨z1, rfl, p, rfl, hp, B, hB, hg⟩
  · clear HUI
    have z1B : decide (linesE l = 0) = false := decide_eq_false z1
    have z1E : (linesE l == 0) = false := by simpa using z1
    have HZ := Lib.hid z1
    clear z1
    generalize linesE l = z at *
    go_wp2_with fail
    refine (begun_any _ (HS.out.below HB2.out)).mono ?_
    rintro e w3 ⟨rfl, hb3⟩
    have HB3 := Lib.hid (HB2.out.trans (hb3.mono HB2.out.size))
    have HY3 := Lib.hid hb3
    clear hb3
    go_wp2_with fail
    refine (numbersAre_bad _ _ HZ.out).mono ?_
    rintro e w4 ⟨rfl, h4⟩
    subst w4
    go_wp2_with fail
    go_ret
    exact ⟨rfl, HB3.out⟩
  · clear HUI
    rw [z1]
    clear z1
    have hr' : line < 0 ∨ (n : Int) ≤ line := by have := HN.out; omega
    by_cases c1 : line < 0
    · clear hr hr'
      go_wp2_with fail
      refine (begun_any _ (HS.out.below HB2.out)).mono ?_
      rintro e w3 ⟨rfl, hb3⟩
      have HB3 := Lib.hid (HB2.out.trans (hb3.mono HB2.out.size))
      have HY3 := Lib.hid hb3
      clear hb3
      go_wp2_with fail
      refine (numbersAre_bad 3 _ (by omega)).mono ?_
      rintro e w4 ⟨rfl, h4⟩
      subst w4
      go_wp2_with fail
      go_ret
      exact ⟨rfl, HB3.out⟩
    · have c1B : decide (line < 0) = false := decide_eq_false c1
      have c2 : (n : Int) ≤ line := by omega
      clear hr hr'
      go_wp2_with fail
      refine (begun_any _ (HS.out.below HB2.out)).mono ?_
      rintro e w3 ⟨rfl, hb3⟩
      have HB3 := Lib.hid (HB2.out.trans (hb3.mono HB2.out.size))
      have HY3 := Lib.hid hb3
      clear hb3
      go_wp2_with fail
      refine (numbersAre_bad 3 _ (by omega)).mono ?_
      rintro e w4 ⟨rfl, h4⟩
      subst w4
      go_wp2_with fail
      go_ret
      exact ⟨rfl, HB3.out⟩
  · clear HUI
    have h40 : n ≤ 40 := by have := linesE_40 z1; have := HN.out; omega
    rw [z1]
    have hpn : p < n := by have := HN.out; omega
    have c2B : decide ((n : Int) ≤ (p : Int)) = false := decide_eq_false (by omega)
    have c2N : decide (n ≤ p) = false := decide_eq_false (by omega)
    have HG := Lib.hid hg
    clear z1 hp hg hB
    go_wp2_with fail
    refine (usesOf_ref a n cap l p _ (HL.out.below HB2.out) HN.out h40 hpn).mono ?_
    rintro e w5 ⟨v', rfl, hg5, hb5⟩
    have HG5 := Lib.hid hg5
    have HB5 := Lib.hid (HB2.out.trans (hb5.mono HB2.out.size))
    have HY5 := Lib.hid (HY2.out.trans (hb5.mono HY2.out.size))
    clear hg5 hb5 HB2 HY2
    have HB2 := HB5
    go_wp2_with fail
    refine (begun_any _ (HS.out.below HB2.out)).mono ?_
    rintro e w3 ⟨rfl, hb3⟩
    have HB3 := Lib.hid (HB2.out.trans (hb3.mono HB2.out.size))
    have HY3 := Lib.hid hb3
    clear hb3
    go_wp2_with fail
    have hlen := placesOf_len (usedN (l.take (p + 1)) p (p + 1)) p
    refine (both_same HG.out (HY5.out.trans (HY3.out.mono HY5.out.size)) HG5.out HY3.out (by omega)).mono ?_
    rintro e w6 ⟨rfl, kd, rfl⟩
    go_wp2_with fail
    go_ret
    exact ⟨rfl, kbelow_dN HB3.out _⟩
end Go.Proofs.YtoingnhiipfnlaaDoor
