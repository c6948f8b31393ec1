/-
  Promise S1: the walks of a store's Text and Save.
-/
import Derived.Test.YtdnngcibmkdhhaaStOps
set_option linter.unusedSimpArgs false
namespace Go.Proofs.Ytdnngcibmkdhhaa
open Go.RowKit

/-- Where Text and Save stand when they ask. -/
def boxW (w : World) (q : Nat) (s : ByteArray) : World := (w.alloc (.cells #[.pointer (some ⟨q, 0, none⟩)] 26)).alloc (.cells #[.string s] 9)
theorem boxW_facts (w : World) (q : Nat) (s : ByteArray) : Below w.heap.size w (boxW w q s) ∧ (boxW w q s).heap.size = w.heap.size + 2 ∧ (boxW w q s).cell? ⟨w.heap.size, 0, none⟩ = some (.pointer (some ⟨q, 0, none⟩)) ∧ (boxW w q s).cell? ⟨w.heap.size + 1, 0, none⟩ = some (.string s) ∧ (boxW w q s).frozen? ⟨w.heap.size + 1, 0, none⟩ = false := by
  have h1 : (w.alloc (.cells #[.pointer (some ⟨q, 0, none⟩)] 26)).heap.size = w.heap.size + 1 := by simp
  have b1 := kbelow_box w (.cells #[.pointer (some ⟨q, 0, none⟩)] 26)
  have b2 := kbelow_box (w.alloc (.cells #[.pointer (some ⟨q, 0, none⟩)] 26)) (.cells #[.string s] 9)
  have o := one_of (w.alloc (.cells #[.pointer (some ⟨q, 0, none⟩)] 26)) (.string s) 9
  rw [h1] at o b2
  exact ⟨b1.trans (b2.mono (by omega)), by simp [boxW], (b2.cell (p := ⟨w.heap.size, 0, none⟩) (by simp)).trans (one_of w _ _).1, o.1, o.2⟩
set_option maxRecDepth 100000 in
set_option maxHeartbeats 1000000 in
theorem text_any (q b : Nat) (x : Option Addr) (c : Nat) (D : Dk) (w : World) (h : DkAt w b x c D) (hs : StAt w q b false) (hg : GS D.secs) (ho : D.off = false) :
    Calls Try.prog 11 #[.pointer (some ⟨q, 0, none⟩)] w fun e w' => e = .returned (.tuple #[.string (keptT D.secs), .int .i64 0]) ∧ StAt w' q b false ∧ Kp q none w w' := by
  obtain ⟨f1, f2, f3, f4, f5⟩ := boxW_facts w q ⟨#[]⟩
  have hql := hs.lt
  have hs1 := hs.below f1 hs.lt
  have hab := askW_below (boxW w q ⟨#[]⟩) q
  have hS2 := hs1.below hab hs1.lt
  have hsz : (askW (boxW w q ⟨#[]⟩) q).heap.size = w.heap.size + 4 := by simp [askW, f2]
  have HS2 := Lib.hid hS2
  have HF1 := Lib.hid f1
  have HF2 := Lib.hid f2
  have HA : Hid (Calls Try.prog 14 #[.pointer (some ⟨q, 0, none⟩), .func (.func 17) #[] #[.pointer (some ⟨w.heap.size, 0, none⟩), .pointer (some ⟨w.heap.size + 1, 0, none⟩)]] (boxW w q ⟨#[]⟩) fun e w' => e = .returned (.int .i64 0) ∧ w'.cell? ⟨w.heap.size + 1, 0, none⟩ = some (.string (keptT D.secs)) ∧ StAt w' q b false ∧ Kp q none w w') := by
    refine (ask_any 17 #[.pointer (some ⟨w.heap.size, 0, none⟩), .pointer (some ⟨w.heap.size + 1, 0, none⟩)] q b (w.heap.size + 1) none (boxW w q ⟨#[]⟩) (fun v w1 => v = 0 ∧ w1.cell? ⟨w.heap.size + 1, 0, none⟩ = some (.string (keptT D.secs))) hs1 (fun _ => by simp [go_sem]) (by omega) (fun a ha => by cases ha) (by omega) (fun a ha => by cases ha) ((text1_any w.heap.size (w.heap.size + 1) q b x c D _ _ ((h.below f1).below hab) hS2 hg ho ((hab.cell (p := ⟨w.heap.size, 0, none⟩) (by rw [f2]; simp)).trans f3) ((hab.cell (p := ⟨w.heap.size + 1, 0, none⟩) (by rw [f2]; simp)).trans f4) ((hab.frozen (p := ⟨w.heap.size + 1, 0, none⟩) (by rw [f2]; simp)).trans f5)).mono fun e w1 hr => ⟨0, hr.1, ⟨rfl, hr.2.2⟩, hr.2.1⟩)).mono ?_
    rintro e w' ⟨v, w1, ⟨rfl, y⟩, hk, rfl, rfl⟩
    refine ⟨rfl, set_oth _ (fun e => by injection e with e; omega) (set_oth _ (fun e => by injection e with e; rw [HF2.out] at e; omega) y), ask_left (HS2.out.kpo hk (by omega) (fun a ha => by cases ha)) (by rw [HF2.out]; omega), (ask_kq hk _ _).kp HF1.out (by omega)⟩
  generalize keptT D.secs = T at *
  clear f1 f2 f3 f4 f5 h hs hg ho hs1 hab hS2 HS2
  unfold boxW at HA
  have hmf : ∀ (fn : Fn) (first cap : Array Value) (w : World), (Instr.makeFunc fn first cap).run Try.prog w = .ok (.func fn first cap) w := fun _ _ _ _ => rfl
  go_enter Try.func11, Try.ntmps11
  go_wp2_with (go_at_call 14; refine HA.out.mono ?_; rintro e w' ⟨rfl, y, hs, hb⟩; have HSS := Lib.hid hs; have HBB := Lib.hid hb; clear hs hb)
  go_ret2
  exact ⟨rfl, HSS.out, HBB.out⟩
set_option maxRecDepth 100000 in
set_option maxHeartbeats 1000000 in
theorem text_off (q b : Nat) (w : World) (hs : StAt w q b true) :
    Calls Try.prog 11 #[.pointer (some ⟨q, 0, none⟩)] w fun e w' => e = .returned (.tuple #[.string ⟨#[]⟩, .int .i64 8]) ∧ Below w.heap.size w w' := by
  obtain ⟨f1, f2, f3, f4, f5⟩ := boxW_facts w q ⟨#[]⟩
  have HF1 := Lib.hid f1
  have HF2 := Lib.hid f2
  have HF4 := Lib.hid f4
  have HA := Lib.hid (ask_off 17 #[.pointer (some ⟨w.heap.size, 0, none⟩), .pointer (some ⟨w.heap.size + 1, 0, none⟩)] q b _ (hs.below f1 hs.lt))
  have HA2 : Hid (Calls Try.prog 14 #[.pointer (some ⟨q, 0, none⟩), .func (.func 17) #[] #[.pointer (some ⟨w.heap.size, 0, none⟩), .pointer (some ⟨w.heap.size + 1, 0, none⟩)]] (boxW w q ⟨#[]⟩) fun e w' => e = .returned (.int .i64 8) ∧ w'.cell? ⟨w.heap.size + 1, 0, none⟩ = some (.string ⟨#[]⟩) ∧ Below w.heap.size w w') := by
    refine HA.out.mono ?_
    rintro e w' ⟨rfl, hb⟩
    exact ⟨rfl, (hb.cell (p := ⟨w.heap.size + 1, 0, none⟩) (by rw [HF2.out]; simp)).trans HF4.out, HF1.out.trans (hb.mono HF1.out.size)⟩
  clear f1 f2 f3 f4 f5 hs HA
  unfold boxW at HA2
  have hmf : ∀ (fn : Fn) (first cap : Array Value) (w : World), (Instr.makeFunc fn first cap).run Try.prog w = .ok (.func fn first cap) w := fun _ _ _ _ => rfl
  go_enter Try.func11, Try.ntmps11
  go_wp2_with (go_at_call 14; refine HA2.out.mono ?_; rintro e w' ⟨rfl, y, hb⟩; have HBB := Lib.hid hb; clear hb)
  go_ret2
  exact ⟨rfl, HBB.out⟩
/-- Save is what ask comes to. -/
theorem save_ask (q : Nat) (s : ByteArray) (w : World) (P : Int → World → Prop) (hA : Calls Try.prog 14 #[.pointer (some ⟨q, 0, none⟩), .func (.func 19) #[] #[.pointer (some ⟨w.heap.size + 1, 0, none⟩), .pointer (some ⟨w.heap.size, 0, none⟩)]] (boxW w q s) fun e w' => ∃ v, e = .returned (.int .i64 v) ∧ P v w') :
    Calls Try.prog 13 #[.pointer (some ⟨q, 0, none⟩), .string s] w fun e w' => ∃ v, e = .returned (.int .i64 v) ∧ P v w' := by
  have HA := Lib.hid hA
  unfold boxW at HA
  clear hA
  have hmf : ∀ (fn : Fn) (first cap : Array Value) (w : World), (Instr.makeFunc fn first cap).run Try.prog w = .ok (.func fn first cap) w := fun _ _ _ _ => rfl
  go_enter Try.func13, Try.ntmps13
  go_wp2_with (go_at_call 14; refine HA.out.mono ?_; rintro e w' ⟨v, rfl, hb⟩; have HBB := Lib.hid hb; clear hb)
  go_ret
  exact ⟨v, rfl, HBB.out⟩
theorem save_off (q b : Nat) (s : ByteArray) (w : World) (hs : StAt w q b true) :
    Calls Try.prog 13 #[.pointer (some ⟨q, 0, none⟩), .string s] w fun e w' => ∃ v, e = .returned (.int .i64 v) ∧ v = 8 ∧ Below w.heap.size w w' := by
  obtain ⟨f1, f2, f3, f4, f5⟩ := boxW_facts w q s
  refine save_ask q s w _ ((ask_off 19 _ q b _ (hs.below f1 hs.lt)).mono ?_)
  rintro e w' ⟨rfl, hb⟩
  exact ⟨8, rfl, rfl, f1.trans (hb.mono f1.size)⟩
theorem save_long (q b : Nat) (s : ByteArray) (w : World) (hs : StAt w q b false) (hz : 2000 < s.size) :
    Calls Try.prog 13 #[.pointer (some ⟨q, 0, none⟩), .string s] w fun e w' => ∃ v, e = .returned (.int .i64 v) ∧ v = 2 ∧ StAt w' q b false ∧ Kp q none w w' := by
  obtain ⟨f1, f2, f3, f4, f5⟩ := boxW_facts w q s
  have hql := hs.lt
  have hs1 := hs.below f1 hs.lt
  have hab := askW_below (boxW w q s) q
  have hS2 := hs1.below hab hs1.lt
  refine save_ask q s w _ ((ask_any 19 #[.pointer (some ⟨w.heap.size + 1, 0, none⟩), .pointer (some ⟨w.heap.size, 0, none⟩)] q b (w.heap.size + 1) none (boxW w q s) (fun v _ => v = 2) hs1 (fun _ => by simp [go_sem]) (by omega) (fun a ha => by cases ha) (by omega) (fun a ha => by cases ha) ((save1_long (w.heap.size + 1) w.heap.size s _ ((hab.cell (p := ⟨w.heap.size + 1, 0, none⟩) (by rw [f2]; simp)).trans f4) hz).mono fun e w1 hr => ⟨2, hr.1, rfl, by rw [hr.2]; exact Kp.refl _ _ _⟩)).mono ?_)
  rintro e w' ⟨v, w1, rfl, hk, rfl, rfl⟩
  exact ⟨2, rfl, rfl, ask_left (hS2.kpo hk (by omega) (fun a ha => by cases ha)) (by rw [f2]; omega), (ask_kq hk _ _).kp f1 (by omega)⟩
theorem save_any (q b : Nat) (x : Option Addr) (c : Nat) (D : Dk) (s : ByteArray) (w : World) (h : DkAt w b x c D) (hs : StAt w q b false) (hg : GS D.secs) (ho : D.off = false) (hp : PW D 40) (hqb : q ≠ b) (hqx : ∀ a, x = some a → q ≠ a.block) (hz : s.size ≤ 2000) :
    Calls Try.prog 13 #[.pointer (some ⟨q, 0, none⟩), .string s] w fun e w' => ∃ v, e = .returned (.int .i64 v) ∧ ∃ D', KeepR D s D' v ∧ DkAt w' b x c D' ∧ StAt w' q b (v == 8) ∧ Kq q b x w w' := by
  obtain ⟨f1, f2, f3, f4, f5⟩ := boxW_facts w q s
  have hql := hs.lt
  have hbl := h.lt
  have hxl := h.xlt (by have := hg.1.1; omega)
  have hs1 := hs.below f1 hs.lt
  have hab := askW_below (boxW w q s) q
  have hS2 := hs1.below hab hs1.lt
  refine save_ask q s w _ ((ask_any 19 #[.pointer (some ⟨w.heap.size + 1, 0, none⟩), .pointer (some ⟨w.heap.size, 0, none⟩)] q b b x (boxW w q s) (fun v w1 => ∃ D', KeepR D s D' v ∧ DkAt w1 b x c D') hs1 (fun _ => by simp [go_sem]) (by omega) (fun a ha => by have := hxl a ha; omega) hqb hqx ((save1_any (w.heap.size + 1) w.heap.size q b x c D s _ ((h.below f1).below hab) hS2 hg ho hp hqb hqx hz ((hab.cell (p := ⟨w.heap.size, 0, none⟩) (by rw [f2]; simp)).trans f3) ((hab.cell (p := ⟨w.heap.size + 1, 0, none⟩) (by rw [f2]; simp)).trans f4)).mono fun e w1 hr => by obtain ⟨D', v, h1, h2, h3, h4⟩ := hr; exact ⟨v, h2, ⟨D', h1, h3⟩, h4⟩)).mono ?_)
  rintro e w' ⟨v, w1, ⟨D', hk', hd'⟩, hk, rfl, rfl⟩
  exact ⟨v, rfl, D', hk', ask_dk hd' (by rw [f2]; omega) (fun a ha => by have := hxl a ha; rw [f2]; omega) hqb hqx, ask_left (hS2.kpo hk hqb hqx) (by rw [f2]; omega), (ask_kq hk _ _).after f1⟩
end Go.Proofs.Ytdnngcibmkdhhaa
