/-
  Promises M2, M4: the walk of listed.
-/
import Derived.Test.YtfamnlaignjhkaaOList
namespace Go.Proofs.Ytfamnlaignjhkaa
open Go.RowKit Go.Sort Go.Maps Go.WideMaps

theorem oat_box (w : World) (p y c : Int) (s : ByteArray) : OAt (w.alloc (.cells #[.int .i64 p, .string s, .int .i64 y, .int .i64 c] 50)) w.heap.size 0 [⟨p, s, y, c⟩] := by
  refine ⟨by simp, fun j hj => ?_⟩
  obtain rfl : j = 0 := by simpa using hj
  refine ⟨?_, ?_, ?_, ?_⟩ <;> simp [onth]
theorem grown_below {B : Nat} {w w' : World} {row : Option Nat} (hg : w.grownBy w' row) (hr : ∀ r, row = some r → B ≤ r) (hB : B ≤ w.heap.size) : Go.RowKit.Below B w w' := (Below.refl B w).grown hg hB hr
/-- Behind the map and the iterator. -/
def LoopIs (w : World) (b n : Nat) (g : Ky → Option Int) (D : DataW Unit) (lv : Value) (wr : World) (cnt : Nat) : Prop :=
  ∃ (left : Lit → Bool) (l : List Tt), wr.ranges Try.prog 67 (plainElem (H := Unit) Try.prog 3) b w.heap.size n D left cnt ∧ GrowO wr (w.heap.size + 1) lv l ∧ SoFar g left l ∧ (∀ kl, left kl = true → Maps.has D kl = true) ∧ l.length + cnt ≤ n ∧ Go.RowKit.Below w.heap.size w wr ∧ w.heap.size + 1 ≤ wr.heap.size
set_option maxRecDepth 100000 in
set_option maxHeartbeats 2000000 in
theorem listed_any (b n : Nat) (g : Ky → Option Int) (w : World) (h : SumIs w b n g) (hn : n ≤ 100000) :
    Calls Try.prog 46 #[.map (some b)] w fun e w' => ∃ (v : Value) (er : Int), e = .returned (.tuple #[v, .int .i64 er]) ∧ ListRet g w' v er ∧ Go.RowKit.Below w.heap.size w w' := by
  have hblt := h.lt
  obtain ⟨D, hown, hD⟩ := h
  have HD := Lib.hid hD
  have HSZ := Lib.hid (own_size hown)
  clear hD
  go_enter Try.func46, Try.ntmps46
  go_wp2_with (first | (at_range; refine wpList_range_own _ rfl _ 65 rfl 67 3 keyLaw Try.underlying65 _ b n D rfl hown ?_; intro w0 hrg0 hg0 hs0))
  go_frame
  go_loopw [4] (fun lv wr => ∃ cnt, LoopIs w b n g D lv wr cnt) (fun _ wr => wr.rangeLeft b w.heap.size)
  case atStart =>
    refine ⟨_, _, [], hrg0, GrowO.nil _ _, ⟨List.nodup_nil, fun t => ?_, fun k x hk hx hl => ?_⟩, fun _ h => h, ?_, grown_below hg0 (fun r hr => by cases hr) (Nat.le_refl _), by omega⟩
    · simp only [List.not_mem_nil, false_iff]
      rintro ⟨hm, hl⟩
      rw [(HD.out _ hm.1).1, hm.2.1] at hl
      cases hl
    · rw [(HD.out _ hk).1, hx] at hl
      cases hl
    · simpa using HSZ.out
  case round =>
    clear hrg0 hg0 hs0
    obtain ⟨cnt, left, l, hrg, hgr, hso, hlh, hlen, hb, hsz⟩ := hrel
    obtain ⟨x9, c9, hlv, _⟩ := hgr.slice
    subst hlv
    generalize hm9 : l.length = m9 at hgr hlen ⊢
    have HG := Lib.hid hgr
    have HS := Lib.hid hso
    have HL := Lib.hid hlh
    have HN := Lib.hid hlen
    have HB := Lib.hid hb
    have HZ := Lib.hid hsz
    have HRG := Lib.hid hrg
    have HM9 := Lib.hid hm9
    have HBL := Lib.hid hblt
    have hm63 : m9 ≤ 9223372036854775807 := by omega
    clear hgr hso hlh hlen hb hsz hm9 hblt hown
    go_wp2_with (first | (at_next; refine wpList_next_sums _ rfl _ rfl b w.heap.size n D left cnt rfl hrg ?_ ?_))
    case refine_1 =>
      intro _ hl0
      have HDN := Lib.hid (HS.out.done hl0)
      clear hl0 hrg
      by_cases h4 : 400 < m9
      · have h4' : (400 : Int) < (m9 : Int) := by omega
        go_wp2_with fail
        go_ret2
        exact ⟨_, _, rfl, .inr (.inl ⟨HDN.out.1, l, HDN.out.2, by rw [HM9.out]; exact h4, rfl, rfl⟩), HB.out⟩
      · have h4' : ¬ ((400 : Int) < (m9 : Int)) := by omega
        rcases HG.out.form with ⟨hv, hl⟩ | ⟨gg, cc, hv, hBg, hoat, hH⟩
        · have h0 : m9 = 0 := by rw [← HM9.out, hl]; rfl
          subst h0
          clear hv
          go_wp2_with (first | (go_at_call 52; refine (sort_none _ _ _).mono ?_; rintro e w' ⟨rfl, h'⟩; subst w'))
          go_ret2
          refine ⟨_, _, rfl, .inr (.inr ⟨HDN.out.1, l, HDN.out.2, by rw [hl]; simp, by rw [hl]; rfl, rfl, _, _, by rw [hl]; rfl, .inl (by rw [hl]; rfl)⟩), HB.out⟩
        · injection hv with hv1 hv2 hv3
          subst hv1 hv3
          have HH := Lib.hid hH
          have HGL := Lib.hid hoat.1
          have HBG := Lib.hid hBg
          clear hoat hH hBg
          subst hv2
          go_wp2_with (first | (go_at_call 52; refine (sort_any gg _ l _ HH.out HGL.out (by omega)).mono ?_; rintro e w' ⟨rfl, hsrt⟩))
          go_ret2
          obtain ⟨l', hp, hs, hat', hbel⟩ := hsrt
          have hl' : ListOf g l' := HDN.out.2.perm hp
          have hlen' : l'.length = l.length := hp.length_eq
          refine ⟨_, _, rfl, .inr (.inr ⟨HDN.out.1, l', hl', by omega, sorted_up hl'.1 hl'.keys hs, rfl, _, _, by rw [hlen']; rfl, .inr ⟨gg, 0, rfl, hat'⟩⟩), hbel _ _ (by have := HBG.out; omega) (Nat.le_refl _) HB.out⟩
    case refine_2 =>
      intro p y s c w1 cnt1 hwk hlk hat hrg1 hlt hg1 hs1 hen
      clear hrg
      have HGK : Hid (g ⟨p, y, s⟩ = some c) := by
        unfold Hid
        have e1 := (HD.out _ hwk).1
        have e2 := (HD.out _ hwk).2
        rw [HL.out _ hlk] at e1
        rw [hat] at e2
        cases hgk : g ⟨p, y, s⟩ with
        | none => rw [hgk] at e1; cases e1
        | some v =>
          rw [hgk] at e2
          injection e2 with e2
          injection e2 with _ e2
          rw [e2]
          rfl
      have HWK := Lib.hid hwk
      have HLK := Lib.hid hlk
      have HRG1 := Lib.hid hrg1
      have HG1 := Lib.hid (HG.out.kept hg1 (fun r hr => by cases hr; omega))
      have HB1 := Lib.hid (HB.out.grown hg1 HB.out.size (fun r hr => by cases hr; exact Nat.le_refl _))
      have HZ1 : Hid (w.heap.size + 1 ≤ w1.heap.size) := Lib.hid (by rw [hs1]; exact HZ.out)
      clear hwk hlk hrg1 hg1 hs1 hat
      cases hmo : monB c
      · have HNA : Hid (¬ AllMon g) := fun h => by have := h _ _ HWK.out HGK.out; rw [hmo] at this; cases this
        go_wp2_with (first | (go_at_call 42; refine (isMoney_any _ _).mono ?_; rintro e w' ⟨rfl, h'⟩; subst w'; rw [hmo]))
        go_ret2
        exact ⟨_, _, rfl, .inl ⟨HNA.out, rfl, rfl⟩, HB1.out.alloc HB1.out.size _⟩
      · by_cases hc0 : c = 0
        · have hc0' : (c != 0) = false := by simp [hc0]
          have HS2 := Lib.hid (HS.out.skip HWK.out (by rw [HGK.out, hc0]))
          clear hc0
          go_wp2_with (first | (go_at_call 42; refine (isMoney_any _ _).mono ?_; rintro e w' ⟨rfl, h'⟩; subst w'; rw [hmo]))
          go_roundw
          case rel =>
            refine ⟨cnt1, _, l, HRG1.out.alloc _, HG1.out.alloc _, HS2.out, fun kl h => ?_, by have := HN.out; have := HM9.out; omega, HB1.out.alloc HB1.out.size _, by have := HZ1.out; simp; omega⟩
            simp only [Bool.and_eq_true] at h
            exact HL.out kl h.1
          case measure => rw [(HRG1.out.alloc _).left_eq, HRG.out.left_eq]; omega
        · have hc0' : (c != 0) = true := by simp [hc0]
          have HS2 := Lib.hid (HS.out.take HWK.out HLK.out HGK.out hc0 hmo)
          have hz1 := HZ1.out
          have hnn := HN.out
          have hmm := HM9.out
          have hbl := HBL.out
          clear hc0
          have HG2 := Lib.hid ((HG1.out.alloc (.cells #[.int .i64 p, .int .i64 y, .string s] 67)).alloc (.cells #[.int .i64 p, .string s, .int .i64 y, .int .i64 c] 50))
          have HB2 := Lib.hid ((HB1.out.alloc HB1.out.size (.cells #[.int .i64 p, .int .i64 y, .string s] 67)).alloc (Nat.le_trans HB1.out.size (by simp)) (.cells #[.int .i64 p, .string s, .int .i64 y, .int .i64 c] 50))
          have HRG2 := Lib.hid ((HRG1.out.alloc (.cells #[.int .i64 p, .int .i64 y, .string s] 67)).alloc (.cells #[.int .i64 p, .string s, .int .i64 y, .int .i64 c] 50))
          have HOA := Lib.hid (oat_box (w1.alloc (.cells #[.int .i64 p, .int .i64 y, .string s] 67)) p y c s)
          rw [World.size_alloc] at HOA
          have HLT := Lib.hid (HG2.out.lt)
          have hbb : w.heap.size + 1 ≤ ((w1.alloc (.cells #[.int .i64 p, .int .i64 y, .string s] 67)).alloc (.cells #[.int .i64 p, .string s, .int .i64 y, .int .i64 c] 50)).heap.size := by simp; omega
          have HBB := Lib.hid hbb
          clear hbb hz1
          go_wp2_with (first
            | (go_at_call 42; refine (isMoney_any _ _).mono ?_; rintro e w' ⟨rfl, h'⟩; subst w'; rw [hmo])
            | (at_builtin; refine wpList_app_tts _ rfl _ _ rfl (w.heap.size + 1) (.slice x9 m9 c9) l rfl HG2.out (w1.heap.size + 1) 0 1 1 [⟨p, s, y, c⟩] rfl HOA.out rfl (by omega) HBB.out ?_; intro v' w2 hgr2 hgrow2 hbel2))
          have HRG3 := Lib.hid (HRG2.out.kept hgrow2 (fun e => by have := (HLT.out _ e.symm).1; omega) (fun e => by have := (HLT.out _ e.symm).1; omega))
          go_roundw
          case rel =>
            refine ⟨cnt1, _, _, HRG3.out, hgr2, HS2.out, fun kl h => ?_, by rw [List.length_append]; simp; omega, HB2.out.trans (hbel2.mono (by omega)), Nat.le_trans HBB.out hgrow2.size⟩
            simp only [Bool.and_eq_true] at h
            exact HL.out kl h.1
          case measure => rw [HRG3.out.left_eq, HRG.out.left_eq]; omega
end Go.Proofs.Ytfamnlaignjhkaa
