/-
  Promise S1: the walk of a store's ask, and of what it defers.
-/
import Derived.Test.YtdnngcibmkdhhaaStHed
import Derived.Test.YtdnngcibmkdhhaaStKep
import Derived.Defers
import Derived.Recover
import Derived.Laws.Pointers
set_option linter.unusedSimpArgs false
namespace Go.Proofs.Ytdnngcibmkdhhaa
open Go.RowKit

set_option maxRecDepth 100000 in
set_option maxHeartbeats 1000000 in
theorem ask_idle (p sb q : Nat) (v : Int) (u : Value) (w : World) (hp : w.cell? ⟨p, 0, none⟩ = some (.int .i64 v)) (hs : w.cell? ⟨sb, 0, none⟩ = some (.pointer (some ⟨q, 0, none⟩))) (hq : w.cell? ⟨q, 1, none⟩ = some u) (hz : w.frozen? ⟨q, 1, none⟩ = false) :
    CallsD Try.prog 21 #[.pointer (some ⟨p, 0, none⟩), .pointer (some ⟨sb, 0, none⟩)] .returning w fun e u' w' => e = .returned (.tuple #[]) ∧ u' = .returning ∧ w' = w.setCell ⟨q, 1, none⟩ (.bool (v == 8)) := by
  refine callsD_of_wpS Try.func21 rfl fun c₀ cs hu => ?_
  apply wpS_seq
  apply wpS_seq
  apply wpS_region
  simp [wpOpsS, go_sem, recoverD, hu, Try.ntmps21, Exit.thenS]
  refine wpS_cond (t := false) (by simp [Act.eval]) ?_
  simp only [Bool.false_eq_true, if_false]
  refine wpS_of_wp (wp_skip ?_)
  refine wpS_of_wp ?_
  go_wp2_with fail
  cases c₀
  simp_all [bodyPostS, results, Try.results21]
theorem StAt.kpo {w w' : World} {q b b' : Nat} {o : Bool} {x : Option Addr} (h : StAt w q b o) (hk : Kp b' x w w') (hq : q ≠ b') (hx : ∀ a, x = some a → q ≠ a.block) : StAt w' q b o :=
  ⟨(hk.cell (p := ⟨q, 0, none⟩) h.lt hq hx).1.trans h.1, (hk.cell (p := ⟨q, 1, none⟩) h.lt hq hx).1.trans h.2.1, (hk.cell (p := ⟨q, 1, none⟩) h.lt hq hx).2.trans h.2.2⟩
theorem set_oth {w : World} {p q : Addr} {u : Value} (v : Value) (h : p ≠ q) (hc : w.cell? q = some u) : (w.setCell p v).cell? q = some u := by
  rw [World.cell?_setCell_other (h := h)]
  exact hc
theorem one_of (w : World) (u : Value) (T : TypeId) : (w.alloc (.cells #[u] T)).cell? ⟨w.heap.size, 0, none⟩ = some u ∧ (w.alloc (.cells #[u] T)).frozen? ⟨w.heap.size, 0, none⟩ = false := by
  constructor <;> simp
/-- What stands behind ask's own boxes. -/
def askW (w : World) (q : Nat) : World := (w.alloc (.cells #[.pointer (some ⟨q, 0, none⟩)] 26)).alloc (.cells #[.int .i64 0] 27)
theorem askW_below (w : World) (q : Nat) : Below w.heap.size w (askW w q) := (kbelow_box w _).alloc (kbelow_box w _).size _
set_option maxRecDepth 100000 in
set_option maxHeartbeats 1000000 in
theorem ask_off (F : FuncId) (caps : Array Value) (q b : Nat) (w : World) (hs : StAt w q b true) :
    Calls Try.prog 14 #[.pointer (some ⟨q, 0, none⟩), .func (.func F) #[] caps] w fun e w' => e = .returned (.int .i64 8) ∧ Below w.heap.size w w' := by
  have hql := hs.lt
  obtain ⟨s0, s1, _⟩ := hs
  have HB := Lib.hid ((kbelow_box w (.cells #[.pointer (some ⟨q, 0, none⟩)] 26)).alloc (kbelow_box w _).size (.cells #[.int .i64 8] 27))
  go_enter_defers Try.func14, Try.ntmps14
  go_wp2_with fail
  simp [bodyPostD, Leaves, settle, results, Try.results14, go_sem]
  exact HB.out
set_option maxRecDepth 100000 in
set_option maxHeartbeats 1000000 in
theorem ask_any (F : FuncId) (caps : Array Value) (q b b' : Nat) (x' : Option Addr) (w : World) (A : Int → World → Prop) (hs : StAt w q b false) (hF : ∀ w, (callFunc F caps).run Try.prog w = .ok (.enter F caps) w) (hb' : b' < w.heap.size) (hx' : ∀ a, x' = some a → a.block < w.heap.size) (hqb : q ≠ b') (hqx : ∀ a, x' = some a → q ≠ a.block) (hdo : Calls Try.prog F caps (askW w q) fun e w1 => ∃ v, e = .returned (.int .i64 v) ∧ A v w1 ∧ Kp b' x' (askW w q) w1) :
    Calls Try.prog 14 #[.pointer (some ⟨q, 0, none⟩), .func (.func F) #[] caps] w fun e w' => ∃ v w1, A v w1 ∧ Kp b' x' (askW w q) w1 ∧ e = .returned (.int .i64 v) ∧ w' = (w1.setCell ⟨w.heap.size + 1, 0, none⟩ (.int .i64 v)).setCell ⟨q, 1, none⟩ (.bool (v == 8)) := by
  have HDO := Lib.hid hdo
  have HF := Lib.hid hF
  have hql := hs.lt
  have HS := Lib.hid (hs.below (askW_below w q) hs.lt)
  have hsz : (askW w q).heap.size = w.heap.size + 2 := by simp [askW]
  obtain ⟨s0, s1, _⟩ := hs
  have HX := Lib.hid hx'
  have HQX := Lib.hid hqx
  clear hdo hF hx' hqx
  have hmf : ∀ (fn : Fn) (first cap : Array Value) (w : World), (Instr.makeFunc fn first cap).run Try.prog w = .ok (.func fn first cap) w := fun _ _ _ _ => rfl
  go_enter_defers Try.func14, Try.ntmps14
  go_wp2_with fail
  rw [HF.out, Oper.upon_enter]
  refine HDO.out.mono ?_
  rintro e w1 ⟨v, rfl, ha, hk⟩
  have HA := Lib.hid ha
  have HK := Lib.hid hk
  have hsb : (askW w q).cell? ⟨w.heap.size, 0, none⟩ = some (.pointer (some ⟨q, 0, none⟩)) := ((kbelow_box (w.alloc (.cells #[.pointer (some ⟨q, 0, none⟩)] 26)) (.cells #[.int .i64 0] 27)).cell (p := ⟨w.heap.size, 0, none⟩) (by simp)).trans (one_of w _ _).1
  have heb := one_of (w.alloc (.cells #[.pointer (some ⟨q, 0, none⟩)] 26)) (.int .i64 0) 27
  rw [show (w.alloc (.cells #[.pointer (some ⟨q, 0, none⟩)] 26)).heap.size = w.heap.size + 1 by simp] at heb
  have y0 := (hk.cell (p := ⟨w.heap.size, 0, none⟩) (by rw [hsz]; simp) (by simp; omega) (fun a ha => by have := HX.out a ha; simp; omega)).1.trans hsb
  have y1 := (hk.cell (p := ⟨w.heap.size + 1, 0, none⟩) (by rw [hsz]; simp) (by simp; omega) (fun a ha => by have := HX.out a ha; simp; omega)).1.trans heb.1
  have y2 := (hk.cell (p := ⟨w.heap.size + 1, 0, none⟩) (by rw [hsz]; simp) (by simp; omega) (fun a ha => by have := HX.out a ha; simp; omega)).2.trans heb.2
  obtain ⟨_, t1, t2⟩ := HS.out.kpo hk hqb HQX.out
  clear hk ha hsb
  go_wp2_with fail
  have e1 : (w1.setCell ⟨w.heap.size + 1, 0, none⟩ (.int .i64 v)).cell? ⟨w.heap.size + 1, 0, none⟩ = some (.int .i64 v) := World.cell?_setCell_same _ _ _ y1
  have e0 : (w1.setCell ⟨w.heap.size + 1, 0, none⟩ (.int .i64 v)).cell? ⟨w.heap.size, 0, none⟩ = some (.pointer (some ⟨q, 0, none⟩)) := set_oth _ (fun e => by injection e; omega) y0
  have e2 : (w1.setCell ⟨w.heap.size + 1, 0, none⟩ (.int .i64 v)).cell? ⟨q, 1, none⟩ = some (.bool false) := set_oth _ (fun e => by injection e; omega) t1
  have e3 : (w1.setCell ⟨w.heap.size + 1, 0, none⟩ (.int .i64 v)).frozen? ⟨q, 1, none⟩ = false := by rw [World.frozen?_setCell]; exact t2
  refine leaves_cons (f := 21) (args := #[.pointer (some ⟨w.heap.size + 1, 0, none⟩), .pointer (some ⟨w.heap.size, 0, none⟩)]) (by simp) (by simp [go_sem]) ?_
  refine (ask_idle (w.heap.size + 1) w.heap.size q v _ _ e1 e0 e2 e3).mono ?_
  rintro e4 u' w'' ⟨rfl, rfl, rfl⟩
  have e5 : ((w1.setCell ⟨w.heap.size + 1, 0, none⟩ (.int .i64 v)).setCell ⟨q, 1, none⟩ (.bool (v == 8))).cell? ⟨w.heap.size + 1, 0, none⟩ = some (.int .i64 v) := set_oth _ (fun e => by injection e; omega) e1
  simp [Leaves, settle, results, Try.results14, go_sem, e5]
  exact ⟨v, w1, HA.out, HK.out, rfl, rfl⟩
end Go.Proofs.Ytdnngcibmkdhhaa
