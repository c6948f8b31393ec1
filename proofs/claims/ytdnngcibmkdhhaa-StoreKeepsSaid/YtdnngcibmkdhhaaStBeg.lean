/-
  Promise S1: what must be in any case: the walk of storeBegun; and of the law's closure.
-/
import Derived.Test.YtdnngcibmkdhhaaStLw
set_option linter.unusedSimpArgs false
namespace Go.Proofs.Ytdnngcibmkdhhaa
open Go.RowKit

set_option maxRecDepth 100000 in
set_option maxHeartbeats 1000000 in
theorem begun_any (w : World) : Calls Try.prog 4 #[] w fun e w' => e = .returned (.bool true) ∧ Below w.heap.size w w' := by
  have HND := Lib.hid (newDisk_any 80 (-1) w)
  rw [show ndN 80 = 80 by decide] at HND
  go_enter Try.func4, Try.ntmps4
  go_wp2_with fail
  refine HND.out.mono ?_
  rintro e w1 ⟨b, x, c, rfl, hbw, hd, hx, hb1⟩
  have hxl := hd.xlt (by simp)
  have hbl := hd.lt
  have HOP := Lib.hid (open_any b x c _ w1 hd (gs_new (by omega) (by omega)) rfl)
  have HD := Lib.hid hd
  have HX := Lib.hid hx
  have HXL := Lib.hid hxl
  have HB1 := Lib.hid hb1
  clear hd hx hb1 hxl
  go_wp2_with fail
  refine HOP.out.mono ?_
  rintro e w2 ⟨q, rfl, hq, hs, hb2⟩
  have hqx : ∀ a, x = some a → q ≠ a.block := fun a ha => by have := HXL.out a ha; omega
  have HSV := Lib.hid (save_any q b x c _ ⟨#[107, 101, 112, 116]⟩ w2 (HD.out.below hb2) hs (gs_new (by omega) (by omega)) rfl ⟨⟨by decide, by decide⟩, by decide, by decide⟩ (by omega) hqx (by decide))
  have HB2 := Lib.hid (HB1.out.trans (hb2.mono HB1.out.size))
  have HQX := Lib.hid hqx
  clear hb2 hs hqx
  go_wp2_with fail
  refine HSV.out.mono ?_
  rintro e w3 ⟨v, rfl, D', hk, hd3, hs3, hq3⟩
  obtain ⟨g3, _, _, hcase⟩ := hk
  obtain ⟨rfl, ho3, ht3⟩ : v = 0 ∧ D'.off = false ∧ keptT D'.secs = ⟨#[107, 101, 112, 116]⟩ := by
    rcases hcase with h | ⟨_, _, _, h⟩
    · exact h
    · exact absurd h (by decide)
  have HT := Lib.hid (text_any q b x c D' w3 hd3 hs3 g3 ho3)
  rw [ht3] at HT
  have HB3 := Lib.hid (HB2.out.trans (hq3.below (by have := HB1.out.size; omega) hbw HX.out HB2.out.size))
  clear hcase hd3 hs3 hq3 g3 ho3 ht3
  go_wp2_with fail
  refine HT.out.mono ?_
  rintro e w4 ⟨rfl, hs4, hk4⟩
  have HB4 := Lib.hid (HB3.out.trans ((hk4.kq (b := q) (x := none)).below (by have := HB1.out.size; omega) (by have := HB1.out.size; omega) (fun a ha => by cases ha) HB3.out.size))
  clear hs4 hk4
  go_wp2_with fail
  go_ret
  exact ⟨rfl, HB4.out⟩
set_option maxRecDepth 100000 in
set_option maxHeartbeats 1000000 in
theorem opened_any (sb eb db q : Nat) (w : World) (hs : B1 w sb (.pointer (some ⟨q, 0, none⟩))) (he : B1 w eb (.int .i64 0)) :
    Calls Try.prog 8 #[.pointer (some ⟨sb, 0, none⟩), .pointer (some ⟨eb, 0, none⟩), .pointer (some ⟨db, 0, none⟩)] w fun e w' => e = .returned (.bool true) ∧ w' = w := by
  have h1 := hs.1
  have h2 := he.1
  clear hs he
  go_enter Try.func8, Try.ntmps8
  go_wp2_with fail
  go_ret
  exact ⟨rfl, rfl⟩
end Go.Proofs.Ytdnngcibmkdhhaa
