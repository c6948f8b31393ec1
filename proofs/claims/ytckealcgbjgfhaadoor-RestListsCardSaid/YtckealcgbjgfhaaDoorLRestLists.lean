/-
  The walk of the law RestLists: it answers true at every int, list of ints, period and list of ints, in every world that holds the library's table.
-/
import Derived.Test.YtckealcgbjgfhaaDoorPBegun
import Derived.Test.YtckealcgbjgfhaaDoorMBegun
import Derived.Test.YtckealcgbjgfhaaDoorRList
namespace Go.Proofs.YtckealcgbjgfhaaDoor
open Go.RowKit Mny

theorem PBox.only {w w' : World} {g : Nat} {f t : Int} {lo hi : Nat} (h : PBox w g f t) (ho : Only lo hi w w') (hg : g < lo) : PBox w' g f t := h.below ho.2.2 hg
set_option maxRecDepth 100000 in
set_option maxHeartbeats 1000000 in
theorem walk_restLists (T : Int) (_ : (Lit.int .i64 T).wf = true) (a : Option Addr) (n cap : Nat) (l : List Int) {w : World} (hc : Came w a l) (hn : l.length = n) (_ : n ≤ maxLen) (_ : ∀ x ∈ l, (Lit.int .i64 x).wf = true) (hsz : n * 8 ≤ 140737488351232) (f t : Int) (_ : (Lit.int .i64 f).wf = true) (_ : (Lit.int .i64 t).wf = true) (b : Option Addr) (k kap : Nat) (m : List Int) (hd : Came w b m) (hk : m.length = k) (_ : k ≤ maxLen) (_ : ∀ x ∈ m, (Lit.int .i64 x).wf = true) (hsk : k * 8 ≤ 140737488351232) (ht : Tab w) :
    Calls Tryd.prog 3 #[.int .i64 T, .slice a n cap, .agg #[.int .i64 f, .int .i64 t], .slice b k kap] w fun e w' => e = .returned (.bool true) ∧ Below w.heap.size w w' := by
  have HC := Lib.hid hc
  have HD := Lib.hid hd
  have HN := Lib.hid hn
  have HK := Lib.hid hk
  have HS := Lib.hid hsz
  have HSK := Lib.hid hsk
  have HT := Lib.hid ht
  have HB0 := Lib.hid ((Below.refl w.heap.size w).alloc (Nat.le_refl _) (.cells #[.int .i64 f, .int .i64 t] 24))
  have HX0 := Lib.hid (PBox.made w f t 24)
  clear hc hd hn hk hsz hsk ht
  go_enter Tryd.func3, Tryd.ntmps3
  go_wp2_with fail
  refine (Mny.begun _ (HT.out.below HB0.out)).mono ?_
  rintro e w1 ⟨rfl, hb⟩
  have hg0 : w.heap.size < (w.alloc (.cells #[.int .i64 f, .int .i64 t] 24)).heap.size := by simp
  have HB1 := Lib.hid (HB0.out.trans (hb.mono HB0.out.size))
  have HX1 := Lib.hid (HX0.out.below hb hg0)
  have hg1 : w.heap.size < w1.heap.size := Nat.lt_of_lt_of_le hg0 hb.size
  clear hb HB0 HX0 hg0
  go_wp2_with fail
  refine (begun_any _).mono ?_
  rintro e w2 ⟨rfl, hb⟩
  have HB2 := Lib.hid (HB1.out.trans (hb.mono HB1.out.size))
  have HX2 := Lib.hid (HX1.out.below hb hg1)
  have hg2 : w.heap.size < w2.heap.size := Nat.lt_of_lt_of_le hg1 hb.size
  have hs2 : w1.heap.size ≤ w2.heap.size := hb.size
  clear hb HB1 HX1 hg1 
  have hgA := hg2
  go_wp2_with fail
  refine (twin_any a n cap l w2 (HC.out.below HB2.out) HN.out HS.out).mono ?_
  rintro e w3 ⟨vw, rfl, hw, hb⟩
  have HW3 := Lib.hid hw
  clear hw
  have HB3 := Lib.hid (HB2.out.trans (hb.mono HB2.out.size))
  have HX3 := Lib.hid (HX2.out.below hb hg2)
  have hg3 : w.heap.size < w3.heap.size := Nat.lt_of_lt_of_le hg2 hb.size
  have hs3 : w2.heap.size ≤ w3.heap.size := hb.size
  clear hb HB2 HX2 hg2 
  go_wp2_with fail
  refine (twin_any b k kap m w3 (HD.out.below HB3.out) HK.out HSK.out).mono ?_
  rintro e w4 ⟨vc, rfl, hw, hb⟩
  have HV4 := Lib.hid hw
  clear hw
  have HB4 := Lib.hid (HB3.out.trans (hb.mono HB3.out.size))
  have HX4 := Lib.hid (HX3.out.below hb hg3)
  have hg4 : w.heap.size < w4.heap.size := Nat.lt_of_lt_of_le hg3 hb.size
  have hs4 : w3.heap.size ≤ w4.heap.size := hb.size
  have HW4 := Lib.hid (HW3.out.below hb)
  clear hb HB3 HX3 hg3 HW3
  obtain ⟨aw, cw, rfl, haw⟩ := HW4.out.came
  obtain ⟨ac, cc, rfl, hac⟩ := HV4.out.came
  have HAW := Lib.hid haw
  have HAC := Lib.hid hac
  clear haw hac
  rw [HN.out] at HW4 ⊢
  rw [HK.out] at HV4 ⊢
  go_wp2_with fail
  refine (share_any T aw n cw l w4 HAW.out HN.out (by have := HS.out; omega)).mono ?_
  rintro e w5 ⟨va, rfl, hw, hb⟩
  have HA5 := Lib.hid hw
  have HAC5 := Lib.hid (HAC.out.below hb)
  have HAW5 := Lib.hid (HAW.out.below hb)
  clear hw HAC HAW
  have HB5 := Lib.hid (HB4.out.trans (hb.mono HB4.out.size))
  have HX5 := Lib.hid (HX4.out.below hb hg4)
  have hg5 : w.heap.size < w5.heap.size := Nat.lt_of_lt_of_le hg4 hb.size
  have hs5 : w4.heap.size ≤ w5.heap.size := hb.size
  have HW5 := Lib.hid (HW4.out.below hb)
  have HV5 := Lib.hid (HV4.out.below hb)
  clear hb HB4 HX4 hg4 HW4 HV4
  obtain ⟨x0, x1⟩ := HX5.out
  go_wp2_with fail
  refine (split_any' T f t ac k cc m w5 HAC5.out HK.out (by have := HSK.out; omega)).mono ?_
  rintro e w6 ⟨vb, rfl, hw, hb⟩
  have HE6 := Lib.hid hw
  have HAC6 := Lib.hid (HAC5.out.below hb)
  have HAW6 := Lib.hid (HAW5.out.below hb)
  clear hw HAC5 HAW5 x0 x1
  have HB6 := Lib.hid (HB5.out.trans (hb.mono HB5.out.size))
  have HX6 := Lib.hid (HX5.out.below hb hg5)
  have hg6 : w.heap.size < w6.heap.size := Nat.lt_of_lt_of_le hg5 hb.size
  have hs6 : w5.heap.size ≤ w6.heap.size := hb.size
  have HW6 := Lib.hid (HW5.out.below hb)
  have HV6 := Lib.hid (HV5.out.below hb)
  have HA6 := Lib.hid (HA5.out.below hb)
  clear hb HB5 HX5 hg5 HW5 HV5 HA5
  go_wp2_with fail
  refine (same_came aw a cw cap n l w6 HN.out (by have := HS.out; omega) HAW6.out (HC.out.below HB6.out)).mono ?_
  rintro e w7 ⟨rfl, hb⟩
  have HAC7 := Lib.hid (HAC6.out.below hb)
  clear HAC6 HAW6
  have HB7 := Lib.hid (HB6.out.trans (hb.mono HB6.out.size))
  have HX7 := Lib.hid (HX6.out.below hb hg6)
  have hg7 : w.heap.size < w7.heap.size := Nat.lt_of_lt_of_le hg6 hb.size
  have hs7 : w6.heap.size ≤ w7.heap.size := hb.size
  have HW7 := Lib.hid (HW6.out.below hb)
  have HV7 := Lib.hid (HV6.out.below hb)
  have HA7 := Lib.hid (HA6.out.below hb)
  have HE7 := Lib.hid (HE6.out.below hb)
  clear hb HB6 HX6 hg6 HW6 HV6 HA6 HE6
  go_wp2_with fail
  refine (same_came ac b cc kap k m w7 HK.out (by have := HSK.out; omega) HAC7.out (HD.out.below HB7.out)).mono ?_
  rintro e w8 ⟨rfl, hb⟩
  clear HAC7
  have HB8 := Lib.hid (HB7.out.trans (hb.mono HB7.out.size))
  have HX8 := Lib.hid (HX7.out.below hb hg7)
  have hg8 : w.heap.size < w8.heap.size := Nat.lt_of_lt_of_le hg7 hb.size
  have hs8 : w7.heap.size ≤ w8.heap.size := hb.size
  have HW8 := Lib.hid (HW7.out.below hb)
  have HV8 := Lib.hid (HV7.out.below hb)
  have HA8 := Lib.hid (HA7.out.below hb)
  have HE8 := Lib.hid (HE7.out.below hb)
  clear hb HB7 HX7 hg7 HW7 HV7 HA7 HE7
  obtain ⟨aa, ca, rfl, haa⟩ := HA8.out.came
  obtain ⟨ab, cb, rfl, hab⟩ := HE8.out.came
  have HAB := Lib.hid hab
  have hl1 := shrL_len T l
  have hl2 := sptL_len T f t m
  go_wp2_with fail
  refine (twin_any aa (shrL T l).length ca (shrL T l) w8 haa rfl (by omega)).mono ?_
  rintro e w9 ⟨vx, rfl, hw, hb⟩
  have HP9 := Lib.hid hw
  have HAB9 := Lib.hid (HAB.out.below hb)
  clear hw HAB haa hab
  have HB9 := Lib.hid (HB8.out.trans (hb.mono HB8.out.size))
  have HX9 := Lib.hid (HX8.out.below hb hg8)
  have hg9 : w.heap.size < w9.heap.size := Nat.lt_of_lt_of_le hg8 hb.size
  have hs9 : w8.heap.size ≤ w9.heap.size := hb.size
  have HW9 := Lib.hid (HW8.out.below hb)
  have HV9 := Lib.hid (HV8.out.below hb)
  have HA9 := Lib.hid (HA8.out.below hb)
  have HE9 := Lib.hid (HE8.out.below hb)
  clear hb HB8 HX8 hg8 HW8 HV8 HA8 HE8
  go_wp2_with fail
  refine (twin_any ab (sptL T f t m).length cb (sptL T f t m) w9 HAB9.out rfl (by omega)).mono ?_
  rintro e w10 ⟨vy, rfl, hw, hb⟩
  have HQ10 := Lib.hid hw
  clear hw HAB9
  have HB10 := Lib.hid (HB9.out.trans (hb.mono HB9.out.size))
  have HX10 := Lib.hid (HX9.out.below hb hg9)
  have hg10 : w.heap.size < w10.heap.size := Nat.lt_of_lt_of_le hg9 hb.size
  have hs10 : w9.heap.size ≤ w10.heap.size := hb.size
  have HW10 := Lib.hid (HW9.out.below hb)
  have HV10 := Lib.hid (HV9.out.below hb)
  have HA10 := Lib.hid (HA9.out.below hb)
  have HE10 := Lib.hid (HE9.out.below hb)
  have HP10 := Lib.hid (HP9.out.below hb)
  clear hb HB9 HX9 hg9 HW9 HV9 HA9 HE9 HP9
  go_wp2_with fail
  refine (spoil_any w4.heap.size w5.heap.size _ _ w10 HA10.out (by omega)).mono ?_
  rintro e w11 ⟨⟨z1, rfl⟩, hon⟩
  have HB11 := Lib.hid (HB10.out.trans (hon.2.2.mono (by omega)))
  have HX11 := Lib.hid (HX10.out.only hon (by omega))
  have hg11 : w.heap.size < w11.heap.size := by rw [hon.1]; exact hg10
  have hs11 : w10.heap.size ≤ w11.heap.size := by rw [hon.1]; exact Nat.le_refl _
  have HW11 := Lib.hid (HW10.out.only hon (by omega))
  have HV11 := Lib.hid (HV10.out.only hon (by omega))
  have HE11 := Lib.hid (HE10.out.only hon (by omega))
  have HP11 := Lib.hid (HP10.out.only hon (by omega))
  have HQ11 := Lib.hid (HQ10.out.only hon (by omega))
  clear hon HB10 HX10 hg10 HW10 HV10 HE10 HP10 HQ10
  go_wp2_with fail
  refine (spoil_any w5.heap.size w6.heap.size _ _ w11 HE11.out (by omega)).mono ?_
  rintro e w12 ⟨⟨z2, rfl⟩, hon⟩
  have HB12 := Lib.hid (HB11.out.trans (hon.2.2.mono (by omega)))
  have HX12 := Lib.hid (HX11.out.only hon (by omega))
  have hg12 : w.heap.size < w12.heap.size := by rw [hon.1]; exact hg11
  have hs12 : w11.heap.size ≤ w12.heap.size := by rw [hon.1]; exact Nat.le_refl _
  have HW12 := Lib.hid (HW11.out.only hon (by omega))
  have HV12 := Lib.hid (HV11.out.only hon (by omega))
  have HP12 := Lib.hid (HP11.out.only hon (by omega))
  have HQ12 := Lib.hid (HQ11.out.only hon (by omega))
  clear hon HB11 HX11 hg11 HW11 HV11 HP11 HQ11
  go_wp2_with fail
  refine (spoil_any w2.heap.size w3.heap.size _ l w12 (by have h := HW12.out; exact h) (by have := HS.out; have := HN.out; omega)).mono ?_
  rintro e w13 ⟨⟨z3, rfl⟩, hon⟩
  have HB13 := Lib.hid (HB12.out.trans (hon.2.2.mono (by omega)))
  have HX13 := Lib.hid (HX12.out.only hon (by omega))
  have hg13 : w.heap.size < w13.heap.size := by rw [hon.1]; exact hg12
  have hs13 : w12.heap.size ≤ w13.heap.size := by rw [hon.1]; exact Nat.le_refl _
  have HV13 := Lib.hid (HV12.out.only hon (by omega))
  have HP13 := Lib.hid (HP12.out.only hon (by omega))
  have HQ13 := Lib.hid (HQ12.out.only hon (by omega))
  clear hon HB12 HX12 hg12 HV12 HP12 HQ12
  go_wp2_with fail
  refine (spoil_any w3.heap.size w4.heap.size _ m w13 (by have h := HV13.out; exact h) (by have := HSK.out; have := HK.out; omega)).mono ?_
  rintro e w14 ⟨⟨z4, rfl⟩, hon⟩
  have HB14 := Lib.hid (HB13.out.trans (hon.2.2.mono (by omega)))
  have HX14 := Lib.hid (HX13.out.only hon (by omega))
  have hg14 : w.heap.size < w14.heap.size := by rw [hon.1]; exact hg13
  have hs14 : w13.heap.size ≤ w14.heap.size := by rw [hon.1]; exact Nat.le_refl _
  have HP14 := Lib.hid (HP13.out.only hon (by omega))
  have HQ14 := Lib.hid (HQ13.out.only hon (by omega))
  clear hon HB13 HX13 hg13 HP13 HQ13
  go_wp2_with fail
  refine (share_any T a n cap l w14 (HC.out.below HB14.out) HN.out (by have := HS.out; omega)).mono ?_
  rintro e w15 ⟨va2, rfl, hw, hb⟩
  have HA15 := Lib.hid hw
  clear hw
  have HB15 := Lib.hid (HB14.out.trans (hb.mono HB14.out.size))
  have HX15 := Lib.hid (HX14.out.below hb hg14)
  have hg15 : w.heap.size < w15.heap.size := Nat.lt_of_lt_of_le hg14 hb.size
  have hs15 : w14.heap.size ≤ w15.heap.size := hb.size
  have HP15 := Lib.hid (HP14.out.below hb)
  have HQ15 := Lib.hid (HQ14.out.below hb)
  clear hb HB14 HX14 hg14 HP14 HQ14
  obtain ⟨x0, x1⟩ := HX15.out
  go_wp2_with fail
  refine (split_any' T f t b k kap m w15 (HD.out.below HB15.out) HK.out (by have := HSK.out; omega)).mono ?_
  rintro e w16 ⟨vb2, rfl, hw, hb⟩
  have HE16 := Lib.hid hw
  clear hw x0 x1
  have HB16 := Lib.hid (HB15.out.trans (hb.mono HB15.out.size))
  have HX16 := Lib.hid (HX15.out.below hb hg15)
  have hg16 : w.heap.size < w16.heap.size := Nat.lt_of_lt_of_le hg15 hb.size
  have hs16 : w15.heap.size ≤ w16.heap.size := hb.size
  have HP16 := Lib.hid (HP15.out.below hb)
  have HQ16 := Lib.hid (HQ15.out.below hb)
  have HA16 := Lib.hid (HA15.out.below hb)
  clear hb HB15 HX15 hg15 HP15 HQ15 HA15
  obtain ⟨p1, p2, rfl, p3⟩ := HP16.out.came
  obtain ⟨q1, q2, rfl, q3⟩ := HQ16.out.came
  obtain ⟨r1, r2, rfl, r3⟩ := HA16.out.came
  obtain ⟨s1, s2, rfl, s3⟩ := HE16.out.came
  have HQ3 := Lib.hid q3
  have HS3 := Lib.hid s3
  have HP3 := Lib.hid p3
  have HR3 := Lib.hid r3
  clear p3 q3 r3 s3
  go_wp2_with fail
  refine (same_came r1 p1 r2 p2 _ (shrL T l) w16 rfl (by omega) HR3.out HP3.out).mono ?_
  rintro e w17 ⟨rfl, hb⟩
  have HB17 := Lib.hid (HB16.out.trans (hb.mono HB16.out.size))
  have HQ4 := Lib.hid (HQ3.out.below hb)
  have HS4 := Lib.hid (HS3.out.below hb)
  clear hb
  go_wp2_with fail
  refine (same_came s1 q1 s2 q2 _ (sptL T f t m) w17 rfl (by omega) HS4.out HQ4.out).mono ?_
  rintro e w18 ⟨rfl, hb⟩
  have HB18 := Lib.hid (HB17.out.trans (hb.mono HB17.out.size))
  clear hb
  go_wp2_with fail
  go_ret
  exact ⟨rfl, HB18.out⟩
end Go.Proofs.YtckealcgbjgfhaaDoor
