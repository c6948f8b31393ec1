/-
  Promise S1: the walks of a store's Open, Text and Save.
-/
import Derived.Test.YtdnngcibmkdhhaaStCls
set_option linter.unusedSimpArgs false
namespace Go.Proofs.Ytdnngcibmkdhhaa
open Go.RowKit

/-- All is kept but a store, a disk and its row. -/
def Kq (q b : Nat) (x : Option Addr) (w w' : World) : Prop := w'.os = w.os ∧ w'.tape = w.tape ∧ w'.output = w.output ∧ w.heap.size ≤ w'.heap.size ∧ ∀ k, k < w.heap.size → k ≠ q → k ≠ b → (∀ a, x = some a → k ≠ a.block) → w'.heap[k]? = w.heap[k]?
theorem Kq.after {q b : Nat} {x : Option Addr} {w W w' : World} (hb : Below w.heap.size w W) (h : Kq q b x W w') : Kq q b x w w' :=
  ⟨h.1.trans hb.os, h.2.1.trans hb.tape, h.2.2.1.trans hb.output, Nat.le_trans hb.size h.2.2.2.1, fun k h1 h2 h3 h4 => (h.2.2.2.2 k (Nat.lt_of_lt_of_le h1 hb.size) h2 h3 h4).trans (hb.block k h1)⟩
theorem Kq.below {q b : Nat} {x : Option Addr} {w w' : World} {B : Nat} (h : Kq q b x w w') (hq : B ≤ q) (hb : B ≤ b) (hx : ∀ a, x = some a → B ≤ a.block) (hB : B ≤ w.heap.size) : Below B w w' :=
  ⟨h.1, h.2.1, h.2.2.1, h.2.2.2.1, fun k hk => h.2.2.2.2 k (by omega) (by omega) (by omega) (fun a ha => by have := hx a ha; omega)⟩
theorem Kq.kp {q b : Nat} {w W w' : World} (hb : Below w.heap.size w W) (h : Kq q b none W w') (hbl : w.heap.size ≤ b) : Kp q none w w' :=
  ⟨h.1.trans hb.os, h.2.1.trans hb.tape, h.2.2.1.trans hb.output, Nat.le_trans hb.size h.2.2.2.1, fun k h1 h2 _ => (h.2.2.2.2 k (Nat.lt_of_lt_of_le h1 hb.size) h2 (by omega) (fun a ha => by cases ha)).trans (hb.block k h1)⟩
theorem ask_kq {q b' : Nat} {x' : Option Addr} {w w1 : World} (h : Kp b' x' (askW w q) w1) (v r : Value) : Kq q b' x' w ((w1.setCell ⟨w.heap.size + 1, 0, none⟩ v).setCell ⟨q, 1, none⟩ r) := by
  have hb := askW_below w q
  refine ⟨h.1.trans hb.os, h.2.1.trans hb.tape, h.2.2.1.trans hb.output, by have := h.2.2.2.1; have := hb.size; simp; omega, fun k h1 h2 h3 h4 => ?_⟩
  rw [Below.heap_setCell _ ⟨q, 1, none⟩ r k (fun e => h2 e), Below.heap_setCell _ ⟨w.heap.size + 1, 0, none⟩ v k (fun e => by have : k = w.heap.size + 1 := e; omega)]
  exact (h.2.2.2.2 k (Nat.lt_of_lt_of_le h1 hb.size) h3 h4).trans (hb.block k h1)
theorem ask_left {q b p : Nat} {o r : Bool} {w1 : World} {v : Value} (h : StAt w1 q b o) (hp : p ≠ q) : StAt ((w1.setCell ⟨p, 0, none⟩ v).setCell ⟨q, 1, none⟩ (.bool r)) q b r :=
  ⟨set_oth _ (fun e => by injection e with _ e _; cases e) (set_oth _ (fun e => hp (by injection e)) h.1), World.cell?_setCell_same _ _ _ (set_oth _ (fun e => hp (by injection e)) h.2.1), by rw [World.frozen?_setCell, World.frozen?_setCell]; exact h.2.2⟩
theorem ask_dk {q b p c : Nat} {x : Option Addr} {D : Dk} {v r : Value} {w1 : World} (h : DkAt w1 b x c D) (hp : p ≠ b) (hpx : ∀ a, x = some a → p ≠ a.block) (hq : q ≠ b) (hqx : ∀ a, x = some a → q ≠ a.block) : DkAt ((w1.setCell ⟨p, 0, none⟩ v).setCell ⟨q, 1, none⟩ r) b x c D := by
  refine ⟨(h.1.other (Ne.symm hp) 0 v).other (Ne.symm hq) 1 r, fun h0 => ?_⟩
  obtain ⟨g, e, h1, h2, h3⟩ := h.2 h0
  have e1 := hpx _ e
  have e2 := hqx _ e
  exact ⟨g, e, h1, by simpa using h2, fun j hj => ⟨set_oth _ (fun e => e2 (by injection e)) (set_oth _ (fun e => e1 (by injection e)) (h3 j hj).1), by rw [World.frozen?_setCell, World.frozen?_setCell]; exact (h3 j hj).2⟩⟩
/-- Where Open stands when it asks. -/
def opW (w : World) (b : Nat) : World := ((w.alloc (.cells #[.iface 24 (.pointer (some ⟨b, 0, none⟩))] 43)).alloc (.cells #[.iface 24 (.pointer (some ⟨b, 0, none⟩)), .bool false] 45)).alloc (.cells #[.pointer (some ⟨w.heap.size + 1, 0, none⟩)] 26)
theorem opW_facts (w : World) (b : Nat) : Below w.heap.size w (opW w b) ∧ (opW w b).heap.size = w.heap.size + 3 ∧ (opW w b).cell? ⟨w.heap.size, 0, none⟩ = some (.iface 24 (.pointer (some ⟨b, 0, none⟩))) ∧ StAt (opW w b) (w.heap.size + 1) b false ∧ (opW w b).cell? ⟨w.heap.size + 2, 0, none⟩ = some (.pointer (some ⟨w.heap.size + 1, 0, none⟩)) := by
  have h1 : (w.alloc (.cells #[.iface 24 (.pointer (some ⟨b, 0, none⟩))] 43)).heap.size = w.heap.size + 1 := by simp
  have h2 : ((w.alloc (.cells #[.iface 24 (.pointer (some ⟨b, 0, none⟩))] 43)).alloc (.cells #[.iface 24 (.pointer (some ⟨b, 0, none⟩)), .bool false] 45)).heap.size = w.heap.size + 2 := by simp
  have b1 := kbelow_box w (.cells #[.iface 24 (.pointer (some ⟨b, 0, none⟩))] 43)
  have b2 := kbelow_box (w.alloc (.cells #[.iface 24 (.pointer (some ⟨b, 0, none⟩))] 43)) (.cells #[.iface 24 (.pointer (some ⟨b, 0, none⟩)), .bool false] 45)
  have b3 := kbelow_box ((w.alloc (.cells #[.iface 24 (.pointer (some ⟨b, 0, none⟩))] 43)).alloc (.cells #[.iface 24 (.pointer (some ⟨b, 0, none⟩)), .bool false] 45)) (.cells #[.pointer (some ⟨w.heap.size + 1, 0, none⟩)] 26)
  have t := two_of (w.alloc (.cells #[.iface 24 (.pointer (some ⟨b, 0, none⟩))] 43)) (.iface 24 (.pointer (some ⟨b, 0, none⟩))) (.bool false) 45
  have f := two_fr (w.alloc (.cells #[.iface 24 (.pointer (some ⟨b, 0, none⟩))] 43)) (.iface 24 (.pointer (some ⟨b, 0, none⟩))) (.bool false) 45
  have o := one_of ((w.alloc (.cells #[.iface 24 (.pointer (some ⟨b, 0, none⟩))] 43)).alloc (.cells #[.iface 24 (.pointer (some ⟨b, 0, none⟩)), .bool false] 45)) (.pointer (some ⟨w.heap.size + 1, 0, none⟩)) 26
  rw [h1] at t f b2
  rw [h2] at o b3
  have hs : StAt ((w.alloc (.cells #[.iface 24 (.pointer (some ⟨b, 0, none⟩))] 43)).alloc (.cells #[.iface 24 (.pointer (some ⟨b, 0, none⟩)), .bool false] 45)) (w.heap.size + 1) b false := ⟨t.1, t.2, f.2⟩
  exact ⟨(b1.trans (b2.mono (by omega))).trans (b3.mono (by omega)), by simp [opW], (b3.cell (p := ⟨w.heap.size, 0, none⟩) (by simp)).trans ((b2.cell (p := ⟨w.heap.size, 0, none⟩) (by simp)).trans (one_of w _ _).1), hs.below b3 (by omega), o.1⟩
theorem op_frame {w w1 : World} {b : Nat} (h : Kp w.heap.size none (askW (opW w b) (w.heap.size + 1)) w1) (v r : Value) : Below w.heap.size w ((w1.setCell ⟨w.heap.size + 3 + 1, 0, none⟩ v).setCell ⟨w.heap.size + 1, 1, none⟩ r) := by
  have := ask_kq h v r
  rw [(opW_facts w b).2.1] at this
  exact (this.after (opW_facts w b).1).below (by omega) (Nat.le_refl _) (fun a ha => by cases ha) (Nat.le_refl _)
set_option maxRecDepth 100000 in
set_option maxHeartbeats 1000000 in
theorem open_few (b : Nat) (x : Option Addr) (c : Nat) (D : Dk) (w : World) (h : DkAt w b x c D) (h80 : D.secs.length < 80) :
    Calls Try.prog 6 #[.iface 24 (.pointer (some ⟨b, 0, none⟩))] w fun e w' => e = .returned (.tuple #[.pointer none, .int .i64 2]) ∧ Below w.heap.size w w' := by
  obtain ⟨f1, f2, f3, f4, f5⟩ := opW_facts w b
  have HF1 := Lib.hid f1
  have hbl := h.lt
  have HAS := Lib.hid (ask_any 15 #[.pointer (some ⟨w.heap.size, 0, none⟩), .pointer (some ⟨w.heap.size + 2, 0, none⟩)] (w.heap.size + 1) b w.heap.size none (opW w b) (fun v _ => v = 2) f4 (fun _ => by simp [go_sem]) (by omega) (fun a ha => by cases ha) (by omega) (fun a ha => by cases ha) ((open1_few w.heap.size (w.heap.size + 2) b x c D _ ((h.below f1).below (askW_below _ _)) (((askW_below (opW w b) (w.heap.size + 1)).cell (p := ⟨w.heap.size, 0, none⟩) (by rw [f2]; simp)).trans f3) h80).mono fun e w1 hr => ⟨2, hr.1, rfl, by rw [hr.2]; exact Kp.refl _ _ _⟩))
  clear f1 f3 f4 f5 h h80
  rw [f2] at HAS
  unfold opW at HAS
  have hmf : ∀ (fn : Fn) (first cap : Array Value) (w : World), (Instr.makeFunc fn first cap).run Try.prog w = .ok (.func fn first cap) w := fun _ _ _ _ => rfl
  go_enter Try.func6, Try.ntmps6
  go_wp2_with (go_at_call 14; refine HAS.out.mono ?_; rintro e w' ⟨v, w1, h0, hk, rfl, rfl⟩)
  subst v
  have HFR := Lib.hid (op_frame hk (.int .i64 2) (.bool (2 == 8)))
  go_wp2_with fail
  go_ret2
  exact ⟨rfl, HFR.out⟩
set_option maxRecDepth 100000 in
set_option maxHeartbeats 1000000 in
theorem open_any (b : Nat) (x : Option Addr) (c : Nat) (D : Dk) (w : World) (h : DkAt w b x c D) (hg : GS D.secs) (ho : D.off = false) :
    Calls Try.prog 6 #[.iface 24 (.pointer (some ⟨b, 0, none⟩))] w fun e w' => ∃ q, e = .returned (.tuple #[.pointer (some ⟨q, 0, none⟩), .int .i64 0]) ∧ w.heap.size ≤ q ∧ StAt w' q b false ∧ Below w.heap.size w w' := by
  obtain ⟨f1, f2, f3, f4, f5⟩ := opW_facts w b
  have HF1 := Lib.hid f1
  have hbl := h.lt
  have HAB := Lib.hid (askW_below (opW w b) (w.heap.size + 1))
  have HF5 := Lib.hid (((HAB.out).cell (p := ⟨w.heap.size + 2, 0, none⟩) (by rw [f2]; simp)).trans f5)
  have HS := Lib.hid (f4.below HAB.out f4.lt)
  have hsz : (askW (opW w b) (w.heap.size + 1)).heap.size = w.heap.size + 5 := by simp [askW, f2]
  have HAS := Lib.hid (ask_any 15 #[.pointer (some ⟨w.heap.size, 0, none⟩), .pointer (some ⟨w.heap.size + 2, 0, none⟩)] (w.heap.size + 1) b w.heap.size none (opW w b) (fun v _ => v = 0) f4 (fun _ => by simp [go_sem]) (by omega) (fun a ha => by cases ha) (by omega) (fun a ha => by cases ha) ((open1_any w.heap.size (w.heap.size + 2) (w.heap.size + 1) b x c D _ ((h.below f1).below HAB.out) HS.out hg ho ((HAB.out.cell (p := ⟨w.heap.size, 0, none⟩) (by rw [f2]; simp)).trans f3) HF5.out).mono fun e w1 hr => ⟨0, hr.1, rfl, Kp.of hr.2⟩))
  have HF2 := Lib.hid f2
  clear f1 f2 f3 f4 f5 h hg ho
  rw [HF2.out] at HAS
  have HAS2 : Hid (Calls Try.prog 14 #[.pointer (some ⟨w.heap.size + 1, 0, none⟩), .func (.func 15) #[] #[.pointer (some ⟨w.heap.size, 0, none⟩), .pointer (some ⟨w.heap.size + 2, 0, none⟩)]] (opW w b) fun e w' => e = .returned (.int .i64 0) ∧ w'.cell? ⟨w.heap.size + 2, 0, none⟩ = some (.pointer (some ⟨w.heap.size + 1, 0, none⟩)) ∧ StAt w' (w.heap.size + 1) b false ∧ Below w.heap.size w w') := by
    refine HAS.out.mono ?_
    rintro e w' ⟨v, w1, rfl, hk, rfl, rfl⟩
    have y := (hk.cell (p := ⟨w.heap.size + 2, 0, none⟩) (by rw [hsz]; simp) (by simp) (fun a ha => by cases ha)).1.trans HF5.out
    exact ⟨rfl, set_oth _ (fun e => by injection e with e; omega) (set_oth _ (fun e => by injection e with e; omega) y), ask_left (HS.out.kpo hk (by omega) (fun a ha => by cases ha)) (by omega), op_frame hk _ _⟩
  clear HAS
  unfold opW at HAS2
  have hmf : ∀ (fn : Fn) (first cap : Array Value) (w : World), (Instr.makeFunc fn first cap).run Try.prog w = .ok (.func fn first cap) w := fun _ _ _ _ => rfl
  go_enter Try.func6, Try.ntmps6
  go_wp2_with (go_at_call 14; refine HAS2.out.mono ?_; rintro e w' ⟨rfl, y, hs, hb⟩; have HSS := Lib.hid hs; have HBB := Lib.hid hb; have y2 : w'.cell? ⟨w.heap.size + 1 + 1, 0, none⟩ = some (.pointer (some ⟨w.heap.size + 1, 0, none⟩)) := y; clear hs hb)
  go_ret2
  exact ⟨w.heap.size + 1, rfl, by omega, HSS.out, HBB.out⟩
end Go.Proofs.Ytdnngcibmkdhhaa
