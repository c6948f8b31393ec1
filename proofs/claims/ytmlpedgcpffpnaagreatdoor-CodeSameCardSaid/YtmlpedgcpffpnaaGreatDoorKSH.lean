/-
  Promise J2: the reference: Takes, Lays, GoesTo, SameLying.
  Promise J2: the reference's WrongOp.
  Promise J2: the reference's WrongOp at jumps and tests, and whatever the kind.
  Promise J2: what the reference's CheckProgram keeps in memory: what lies ahead of each step, and which are bad.
  Promise J2: the reference's greatest depth is the program's; one comes to the end.
  Promise J2: the reference's CheckProgram: its rows while they are made; what WrongOp says of a step's error.
  Promise J2: the reference's CheckProgram: what is laid ahead of the next steps; where one goes from a step.
  Promise J3: the reference's RunProgram: its pile and what lines came to, in memory; a run of the machine has one end.
-/
import Derived.Test.YtmlpedgcpffpnaaGreatDoorKS6
import Derived.Test.YtmlpedgcpffpnaaGreatDoorKS8
import Derived.Test.YtmlpedgcpffpnaaGreatDoorKSA
import Derived.Test.YtmlpedgcpffpnaaGreatDoorKSC
import Derived.Test.YtmlpedgcpffpnaaGreatDoorKS2
import Derived.Lib.QuietBelow
import Derived.BigQuiet
import Derived.ArgAppend
import Derived.Test.YtmlpedgcpffpnaaGreatDoorKSD
import Derived.Test.YtmlpedgcpffpnaaGreatDoorKSE
import Derived.Test.YtmlpedgcpffpnaaGreatDoorKS9
set_option linter.unusedSimpArgs false
namespace Go.Proofs.YtmlpedgcpffpnaaGreatDoor
open Go.RowKit
def KeptAt (w : World) (p : Option Addr) (L k : Nat) : Prop := L = 0 ∨ ∃ b, p = some ⟨b, 0, none⟩ ∧ b < w.heap.size ∧ ∀ j, j < L → w.cell? ⟨b, j, none⟩ = some (.bool (k.testBit j))
theorem KeptAt.below {w w' : World} {p : Option Addr} {L k : Nat} (h : KeptAt w p L k) (hb : Below w.heap.size w w') : KeptAt w' p L k := by
 rcases h with h | ⟨b, rfl, h1, h2⟩
 ·exact .inl h
 ·exact .inr ⟨b, rfl, Nat.lt_of_lt_of_le h1 hb.size, fun j hj => (hb.cell (p := ⟨b, j, none⟩) h1).trans (h2 j hj)⟩
end Go.Proofs.YtmlpedgcpffpnaaGreatDoor
set_option linter.unusedSimpArgs false
namespace Go.Proofs.YtmlpedgcpffpnaaGreatDoor
open Go.RowKit
def woE (d z lines : Int) (n1 n2 n3 n at_ : Nat) : Int := if d < 1 ∨ 16 < d then 7 else if fitsB d z lines n1 n2 n3 n at_ = false then 3 else 0
def WoIs (d z lines : Int) (b off n cap i : Nat) (a1 a2 a3 : Option Addr) (n1 c1 n2 c2 n3 c3 : Nat) (w : World) : Prop :=
 Calls Tryz.prog 32 #[.slice (some ⟨b, off, none⟩) n cap, .int .i64 (i : Int), .int .i64 lines, .agg #[.slice a1 n1 c1, .slice a2 n2 c2, .slice a3 n3 c3]] w fun e w' => e = .returned (.int .i64 (woE d z lines n1 n2 n3 n i)) ∧ Below w.heap.size w w'
end Go.Proofs.YtmlpedgcpffpnaaGreatDoor
set_option linter.unusedSimpArgs false
namespace Go.Proofs.YtmlpedgcpffpnaaGreatDoor
open Go.RowKit
end Go.Proofs.YtmlpedgcpffpnaaGreatDoor
set_option linter.unusedSimpArgs false
namespace Go.Proofs.YtmlpedgcpffpnaaGreatDoor
open Go.RowKit
structure RAt (w : World) (B ab bb n L : Nat) (M : Nat → Int) (A C K : Nat → Nat) (S : Nat → Sp) : Prop where
 many : ∀ t, t ≤ n → w.cell? ⟨ab, t * 2, none⟩ = some (.int .i64 (M t)) ∧ w.frozen? ⟨ab, t * 2, none⟩ = false ∧ w.frozen? ⟨ab, t * 2 + 1, none⟩ = false
 kept : ∀ t, t ≤ n → w.cell? ⟨ab, t * 2 + 1, none⟩ = some (if (S t).r = true then .slice (some ⟨A t, 0, none⟩) L (C t) else .slice none 0 0)
 bad : ∀ t, t ≤ n → w.cell? ⟨bb, t, none⟩ = some (.bool (S t).h) ∧ w.frozen? ⟨bb, t, none⟩ = false
 non : ∀ t, t ≤ n → (S t).r = false → M t < 0 ∧ (S t).h = false
 yes : ∀ t, t ≤ n → (S t).r = true → (0 ≤ M t ∧ K t < 2 ^ L) ∧ (A t < w.heap.size ∧ A t ≠ ab ∧ A t ≠ bb ∧ B ≤ A t) ∧ ∀ j, j < L → w.cell? ⟨A t, j, none⟩ = some (.bool ((K t).testBit j))
 one : ∀ t, t ≤ n → (S t).r = true → (S t).h = false → M t = (S t).d ∧ K t = (S t).k
 la : ab < w.heap.size
 lb : bb < w.heap.size
 ne : ab ≠ bb
 ba : B ≤ ab
 bb' : B ≤ bb
section
variable {w w' : World} {B ab bb n L : Nat} {M : Nat → Int} {A C K : Nat → Nat} {S : Nat → Sp}
theorem RAt.below (h : RAt w B ab bb n L M A C K S) (hb : Below w.heap.size w w') : RAt w' B ab bb n L M A C K S :=
 { h with
   many := fun t ht => ⟨(hb.cell (p := ⟨ab, t * 2, none⟩) h.la).trans (h.many t ht).1, (hb.frozen (p := ⟨ab, t * 2, none⟩) h.la).trans (h.many t ht).2.1, (hb.frozen (p := ⟨ab, t * 2 + 1, none⟩) h.la).trans (h.many t ht).2.2⟩
   kept := fun t ht => (hb.cell (p := ⟨ab, t * 2 + 1, none⟩) h.la).trans (h.kept t ht)
   bad := fun t ht => ⟨(hb.cell (p := ⟨bb, t, none⟩) h.lb).trans (h.bad t ht).1, (hb.frozen (p := ⟨bb, t, none⟩) h.lb).trans (h.bad t ht).2⟩
   yes := fun t ht hr => by
    obtain ⟨h1, ⟨h2, h3, h4, h5⟩, h6⟩ := h.yes t ht hr
    exact ⟨h1, ⟨Nat.lt_of_lt_of_le h2 hb.size, h3, h4, h5⟩, fun j hj => (hb.cell (p := ⟨A t, j, none⟩) h2).trans (h6 j hj)⟩
   la := Nat.lt_of_lt_of_le h.la hb.size
   lb := Nat.lt_of_lt_of_le h.lb hb.size }
def updN (F : Nat → Nat) (i x : Nat) : Nat → Nat := fun j => if j = i then x else F j
theorem rch_at (S : Nat → Sp) (t : Nat) (d : Int) (k : Nat) : rchS S t d k t = ⟨d, k, true, hungB (S t).d (S t).k d k (S t).r (S t).h⟩ := by unfold rchS; rw [if_pos rfl]
theorem rch_ne (S : Nat → Sp) {t j : Nat} (d : Int) (k : Nat) (h : j ≠ t) : rchS S t d k j = S j := by unfold rchS; rw [if_neg h]
theorem RAt.lay (h : RAt w B ab bb n L M A C K S) {t : Nat} (ht : t ≤ n) (hr : (S t).r = false) (d : Int) (k g c : Nat) (hd : 0 ≤ d) (hk : k < 2 ^ L) (hg : g < w.heap.size ∧ g ≠ ab ∧ g ≠ bb ∧ B ≤ g) (hc : ∀ j, j < L → w.cell? ⟨g, j, none⟩ = some (.bool (k.testBit j))) :
 RAt ((w.setCell ⟨ab, t * 2, none⟩ (.int .i64 d)).setCell ⟨ab, t * 2 + 1, none⟩ (.slice (some ⟨g, 0, none⟩) L c)) B ab bb n L (updF M t d) (updN A t g) (updN C t c) (updN K t k) (rchS S t d k) := by
 have hh : (S t).h = false := (h.non t ht hr).2
 have hs : rchS S t d k t = ⟨d, k, true, false⟩ := by rw [rch_at]; unfold hungB; rw [hr, hh]; rfl
 have e0 := (h.many t ht).1
 have e1 : (w.setCell ⟨ab, t * 2, none⟩ (.int .i64 d)).cell? ⟨ab, t * 2 + 1, none⟩ = some (.slice none 0 0) := by
  rw [put_cell e0, if_neg (by omega), h.kept t ht, if_neg (by rw [hr]; decide)]
 have hx : ∀ q, ((w.setCell ⟨ab, t * 2, none⟩ (.int .i64 d)).setCell ⟨ab, t * 2 + 1, none⟩ (.slice (some ⟨g, 0, none⟩) L c)).cell? ⟨ab, q, none⟩ = if q = t * 2 + 1 then some (.slice (some ⟨g, 0, none⟩) L c) else if q = t * 2 then some (.int .i64 d) else w.cell? ⟨ab, q, none⟩ := fun q => by rw [put_cell e1, put_cell e0]
 have ho : ∀ b q, ab ≠ b → ((w.setCell ⟨ab, t * 2, none⟩ (.int .i64 d)).setCell ⟨ab, t * 2 + 1, none⟩ (.slice (some ⟨g, 0, none⟩) L c)).cell? ⟨b, q, none⟩ = w.cell? ⟨b, q, none⟩ := fun b q hb => by rw [cell_apart _ hb, cell_apart _ hb]
 have hf : ∀ a, ((w.setCell ⟨ab, t * 2, none⟩ (.int .i64 d)).setCell ⟨ab, t * 2 + 1, none⟩ (.slice (some ⟨g, 0, none⟩) L c)).frozen? a = w.frozen? a := fun a => by rw [World.frozen?_setCell, World.frozen?_setCell]
 have hz : ((w.setCell ⟨ab, t * 2, none⟩ (.int .i64 d)).setCell ⟨ab, t * 2 + 1, none⟩ (.slice (some ⟨g, 0, none⟩) L c)).heap.size = w.heap.size := by simp
 generalize ((w.setCell ⟨ab, t * 2, none⟩ (.int .i64 d)).setCell ⟨ab, t * 2 + 1, none⟩ (.slice (some ⟨g, 0, none⟩) L c)) = W at *
 refine ⟨fun q hq => ⟨?_, (hf _).trans (h.many q hq).2.1, (hf _).trans (h.many q hq).2.2⟩, fun q hq => ?_, fun q hq => ⟨?_, (hf _).trans (h.bad q hq).2⟩, fun q hq hqr => ?_, fun q hq hqr => ?_, fun q hq hqr hqh => ?_, by rw [hz]; exact h.la, by rw [hz]; exact h.lb, h.ne, h.ba, h.bb'⟩
 ·rw [hx, if_neg (by omega)]
  unfold updF
  by_cases e : q = t
  ·subst e; rw [if_pos rfl, if_pos rfl]
  ·rw [if_neg (by omega), if_neg e]; exact (h.many q hq).1
 ·rw [hx]
  by_cases e : q = t
  ·subst e
   rw [if_pos rfl, hs]
   unfold updN
   simp
  ·rw [if_neg (by omega), if_neg (by omega), rch_ne S d k e, h.kept q hq]
   unfold updN
   rw [if_neg e, if_neg e]
 ·rw [ho bb q h.ne]
  by_cases e : q = t
  ·subst e; rw [hs, (h.bad q hq).1, hh]
  ·rw [rch_ne S d k e]; exact (h.bad q hq).1
 ·by_cases e : q = t
  ·subst e; rw [hs] at hqr; cases hqr
  ·rw [rch_ne S d k e] at hqr ⊢
   unfold updF
   rw [if_neg e]
   exact h.non q hq hqr
 ·by_cases e : q = t
  ·subst e
   unfold updF updN
   rw [if_pos rfl, if_pos rfl, if_pos rfl, hz]
   exact ⟨⟨hd, hk⟩, hg, fun j hj => by rw [ho g j (Ne.symm hg.2.1)]; exact hc j hj⟩
  ·rw [rch_ne S d k e] at hqr
   unfold updF updN
   rw [if_neg e, if_neg e, if_neg e, hz]
   obtain ⟨h1, h2, h3⟩ := h.yes q hq hqr
   exact ⟨h1, h2, fun j hj => by rw [ho (A q) j (Ne.symm h2.2.1)]; exact h3 j hj⟩
 ·by_cases e : q = t
  ·subst e
   rw [hs]
   unfold updF updN
   rw [if_pos rfl, if_pos rfl]
   exact ⟨rfl, rfl⟩
  ·rw [rch_ne S d k e] at hqr hqh ⊢
   unfold updF updN
   rw [if_neg e, if_neg e]
   exact h.one q hq hqr hqh
end
end Go.Proofs.YtmlpedgcpffpnaaGreatDoor
set_option linter.unusedSimpArgs false
namespace Go.Proofs.YtmlpedgcpffpnaaGreatDoor
open Go.RowKit
def rmM (l : List Bk) : Nat → Int
 | 0 => 0
 | j + 1 => if (ckS l j j).r = false then rmM l j else maxI (rmM l j) (ckS l j j).d
end Go.Proofs.YtmlpedgcpffpnaaGreatDoor
set_option linter.unusedSimpArgs false
namespace Go.Proofs.YtmlpedgcpffpnaaGreatDoor
open Go.RowKit
structure IniAt (w : World) (B ab bb n j : Nat) : Prop where
 many : ∀ t, t ≤ n → w.cell? ⟨ab, t * 2, none⟩ = some (.int .i64 (if t < j then -1 else 0)) ∧ w.frozen? ⟨ab, t * 2, none⟩ = false ∧ w.frozen? ⟨ab, t * 2 + 1, none⟩ = false
 kept : ∀ t, t ≤ n → w.cell? ⟨ab, t * 2 + 1, none⟩ = some (.slice none 0 0)
 bad : ∀ t, t ≤ n → w.cell? ⟨bb, t, none⟩ = some (.bool false) ∧ w.frozen? ⟨bb, t, none⟩ = false
 la : ab < w.heap.size
 lb : bb < w.heap.size
 ne : ab ≠ bb
 ba : B ≤ ab
 bb' : B ≤ bb
theorem IniAt.step {w : World} {B ab bb n j : Nat} (h : IniAt w B ab bb n j) (hj : j ≤ n) : IniAt (w.setCell ⟨ab, j * 2, none⟩ (.int .i64 (-1))) B ab bb n (j + 1) := by
 have e0 := (h.many j hj).1
 refine ⟨fun t ht => ⟨?_, by rw [World.frozen?_setCell]; exact (h.many t ht).2.1, by rw [World.frozen?_setCell]; exact (h.many t ht).2.2⟩, fun t ht => by rw [put_cell e0, if_neg (by omega)]; exact h.kept t ht, fun t ht => by rw [cell_apart w h.ne, World.frozen?_setCell]; exact h.bad t ht, by simpa using h.la, by simpa using h.lb, h.ne, h.ba, h.bb'⟩
 rw [put_cell e0]
 by_cases e : t = j
 ·subst e; rw [if_pos rfl, if_pos (by omega)]
 ·rw [if_neg (by omega), (h.many t ht).1]
  by_cases hlt : t < j
  ·rw [if_pos hlt, if_pos (by omega)]
  ·rw [if_neg hlt, if_neg (by omega)]
theorem IniAt.done {w : World} {B ab bb n : Nat} (h : IniAt w B ab bb n (n + 1)) (L : Nat) : RAt w B ab bb n L (fun _ => -1) (fun _ => 0) (fun _ => 0) (fun _ => 0) noS :=
 ⟨fun t ht => ⟨by have := (h.many t ht).1; rwa [if_pos (by omega)] at this, (h.many t ht).2⟩, fun t ht => h.kept t ht, fun t ht => h.bad t ht, fun _ _ _ => ⟨by decide, rfl⟩, fun _ _ hr => Bool.noConfusion (show false = true from hr), fun _ _ hr => Bool.noConfusion (show false = true from hr), h.la, h.lb, h.ne, h.ba, h.bb'⟩
end Go.Proofs.YtmlpedgcpffpnaaGreatDoor
set_option linter.unusedSimpArgs false
namespace Go.Proofs.YtmlpedgcpffpnaaGreatDoor
open Go.RowKit
def KbAt (w : World) (kb L k : Nat) : Prop := kb < w.heap.size ∧ ∀ q, q < L → w.cell? ⟨kb, q, none⟩ = some (.bool (k.testBit q)) ∧ w.frozen? ⟨kb, q, none⟩ = false
theorem KbAt.below {w w' : World} {kb L k : Nat} (h : KbAt w kb L k) (hb : Below w.heap.size w w') : KbAt w' kb L k :=
 ⟨Nat.lt_of_lt_of_le h.1 hb.size, fun q hq => ⟨(hb.cell (p := ⟨kb, q, none⟩) h.1).trans (h.2 q hq).1, (hb.frozen (p := ⟨kb, q, none⟩) h.1).trans (h.2 q hq).2⟩⟩
structure NxAt (w : World) (B g kb L c : Nat) (d : Int) (k : Nat) : Prop where
 bx : Cbx w g [.int .i64 d, .slice (some ⟨kb, 0, none⟩) L c]
 kp : KbAt w kb L k
 bg : B ≤ g
 bk : B ≤ kb
 ne : g ≠ kb
theorem NxAt.below {w w' : World} {B g kb L c : Nat} {d : Int} {k : Nat} (h : NxAt w B g kb L c d k) (hb : Below w.heap.size w w') : NxAt w' B g kb L c d k := ⟨h.bx.below hb h.bx.lt, h.kp.below hb, h.bg, h.bk, h.ne⟩
theorem KbAt.apart {w : World} {kb L k b i : Nat} (h : KbAt w kb L k) (hne : b ≠ kb) (v : Value) : KbAt (w.setCell ⟨b, i, none⟩ v) kb L k :=
 ⟨by simpa using h.1, fun q hq => by rw [cell_apart w hne, World.frozen?_setCell]; exact h.2 q hq⟩
theorem KbAt.keep {w : World} {kb L k z : Nat} (h : KbAt w kb L k) (hz : z < L) : KbAt (w.setCell ⟨kb, z, none⟩ (.bool true)) kb L (k ||| 2 ^ z) := by
 refine ⟨by simpa using h.1, fun q hq => ?_⟩
 rw [put_cell (h.2 z hz).1, World.frozen?_setCell]
 refine ⟨?_, (h.2 q hq).2⟩
 rw [Nat.testBit_or, Nat.testBit_two_pow]
 by_cases e : q = z
 ·subst e; simp
 ·rw [if_neg e, (h.2 q hq).1]
  have : decide (z = q) = false := decide_eq_false (fun h => e h.symm)
  rw [this, Bool.or_false]
theorem NxAt.made {w : World} {B g kb L c : Nat} {k : Nat} (hg : Cbx w g [.int .i64 0, .slice none 0 0]) (hk : KbAt w kb L k) (bg : B ≤ g) (bk : B ≤ kb) (ne : g ≠ kb) (d : Int) :
 NxAt ((w.setCell ⟨g, 0, none⟩ (.int .i64 d)).setCell ⟨g, 1, none⟩ (.slice (some ⟨kb, 0, none⟩) L c)) B g kb L c d k :=
 ⟨cbx_set (cbx_set hg (.int .i64 d) (i := 0) (by simp)) (.slice (some ⟨kb, 0, none⟩) L c) (i := 1) (by simp), (hk.apart ne _).apart ne _, bg, bk, ne⟩
theorem NxAt.keep {w : World} {B g kb L c z : Nat} {d : Int} {k : Nat} (h : NxAt w B g kb L c d k) (hz : z < L) : NxAt (w.setCell ⟨kb, z, none⟩ (.bool true)) B g kb L c d (k ||| 2 ^ z) :=
 ⟨h.bx.to (Below.heap_setCell w ⟨kb, z, none⟩ _ g h.ne), h.kp.keep hz, h.bg, h.bk, h.ne⟩
theorem NxAt.aside {w : World} {B g kb L c b i : Nat} {d : Int} {k : Nat} (h : NxAt w B g kb L c d k) (hb : b < B) (v : Value) : NxAt (w.setCell ⟨b, i, none⟩ v) B g kb L c d k :=
 ⟨h.bx.to (Below.heap_setCell w ⟨b, i, none⟩ _ g (show g ≠ b by have := h.bg; omega)), h.kp.apart (by have := h.bk; omega) v, h.bg, h.bk, h.ne⟩
def ToAt (w : World) (B tb m : Nat) (T : Nat → Nat) : Prop := B ≤ tb ∧ tb < w.heap.size ∧ ∀ e, e < m → w.cell? ⟨tb, e, none⟩ = some (.int .i64 (T e : Int))
theorem ToAt.below {w w' : World} {B tb m : Nat} {T : Nat → Nat} (h : ToAt w B tb m T) (hb : Below w.heap.size w w') : ToAt w' B tb m T := ⟨h.1, Nat.lt_of_lt_of_le h.2.1 hb.size, fun e he => (hb.cell (p := ⟨tb, e, none⟩) h.2.1).trans (h.2.2 e he)⟩
theorem ToAt.aside {w : World} {B tb m b i : Nat} {T : Nat → Nat} (h : ToAt w B tb m T) (hb : b < B) (v : Value) : ToAt (w.setCell ⟨b, i, none⟩ v) B tb m T := ⟨h.1, by simpa using h.2.1, fun e he => by rw [cell_apart w (show b ≠ tb by have := h.1; omega)]; exact h.2.2 e he⟩
theorem ToAt.one (w : World) (B t : Nat) (T : TypeId) (hB : B ≤ w.heap.size) : ToAt (w.alloc (.cells #[.int .i64 (t : Int)] T)) B w.heap.size 1 (fun _ => t) :=
 ⟨hB, by simp, fun e he => by obtain rfl : e = 0 := by omega
                              exact (Cbx.made w [.int .i64 (t : Int)] T).at 0 rfl⟩
def rchN (S : Nat → Sp) (T : Nat → Nat) (d : Int) (k : Nat) : Nat → (Nat → Sp)
 | 0 => S
 | e + 1 => rchS (rchN S T d k e) (T e) d k
def allB (b0 : Bool) (k : Nat) : Nat → Bool
 | 0 => b0
 | u + 1 => allB b0 k u && k.testBit u
end Go.Proofs.YtmlpedgcpffpnaaGreatDoor
set_option linter.unusedSimpArgs false
namespace Go.Proofs.YtmlpedgcpffpnaaGreatDoor
open Go.RowKit
def pileL (m : Nat) (P : Nat → Int) : List Int := (List.range m).map P
theorem pileL_len (m : Nat) (P : Nat → Int) : (pileL m P).length = m := by simp [pileL]
theorem pileL_push (m : Nat) (P : Nat → Int) (r : Int) : pileL m P ++ [r] = pileL (m + 1) (updF P m r) := by
 unfold pileL
 rw [List.range_succ, List.map_append]
 congr 1
 ·apply List.map_congr_left
  intro j hj
  have := List.mem_range.1 hj
  unfold updF
  rw [if_neg (by omega)]
 ·simp [updF]
theorem pileL_at (m : Nat) (P : Nat → Int) {j : Nat} (hj : j < m) : (pileL m P)[j]? = some (P j) := by simp [pileL, hj]
theorem pileL_take (m m' : Nat) (P : Nat → Int) (h : m' ≤ m) : (pileL m P).take m' = pileL m' P := by
 unfold pileL
 rw [← List.map_take, List.take_range, Nat.min_eq_left h]
structure RPt (w : World) (B vb L : Nat) (V : Nat → Int) (v : Value) (m : Nat) (P : Nat → Int) : Prop where
 grow : Grow w B v (pileL m P)
 vals : ∀ j, j < L → w.cell? ⟨vb, j, none⟩ = some (.int .i64 (V j)) ∧ w.frozen? ⟨vb, j, none⟩ = false
 lv : vb < w.heap.size
 bv : B ≤ vb
 ap : v.ownBlock ≠ some vb
section
variable {w w' : World} {B vb L : Nat} {V : Nat → Int} {v : Value} {m : Nat} {P : Nat → Int}
theorem RPt.below (h : RPt w B vb L V v m P) (hb : Below w.heap.size w w') : RPt w' B vb L V v m P :=
 { h with
   grow := World.ownsRow.kept h.grow (row := none) ⟨hb.os, hb.tape, hb.output, hb.size, fun k hk _ => hb.block k hk⟩ (by
    cases hv : v.ownBlock with
    | none => exact .inl rfl
    | some k => exact .inr (by simp))
   vals := fun j hj => ⟨(hb.cell (p := ⟨vb, j, none⟩) h.lv).trans (h.vals j hj).1, (hb.frozen (p := ⟨vb, j, none⟩) h.lv).trans (h.vals j hj).2⟩
   lv := Nat.lt_of_lt_of_le h.lv hb.size }
theorem RPt.keep (h : RPt w B vb L V v m P) {z : Nat} (hz : z < L) (x : Int) : RPt (w.setCell ⟨vb, z, none⟩ (.int .i64 x)) B vb L (updF V z x) v m P :=
 { h with
   grow := World.ownsRow.kept h.grow (row := some vb) ⟨rfl, rfl, rfl, by simp, fun k _ hne => Below.heap_setCell w ⟨vb, z, none⟩ _ k (fun e => hne (by rw [e]))⟩ (.inr h.ap)
   vals := fun j hj => by
    rw [put_cell (h.vals z hz).1, World.frozen?_setCell]
    refine ⟨?_, (h.vals j hj).2⟩
    unfold updF
    split
    ·rfl
    ·exact (h.vals j hj).1
   lv := by simpa using h.lv }
theorem RPt.open (h : RPt w B vb L V v m P) (h0 : 0 < m) : ∃ g c, v = .slice (some ⟨g, 0, none⟩) m c ∧ m ≤ c ∧ (∀ j, j < m → w.cell? ⟨g, j, none⟩ = some (.int .i64 (P j))) ∧ ∀ m', m' ≤ m → RPt w B vb L V (.slice (some ⟨g, 0, none⟩) m' c) m' P := by
 have hh := h.grow
 have hg := h.grow
 unfold Grow at hh hg
 rw [pileL_len] at hh hg
 obtain ⟨hlen, ⟨_, h2⟩ | ⟨g, c, cur, rfl, e1, e2, e3, e4, e5, e6⟩⟩ := hh
 ·omega
 ·refine ⟨g, c, rfl, e3, fun j hj => ?_, fun m' hm' => ⟨?_, h.vals, h.lv, h.bv, h.ap⟩⟩
  ·have := World.ownsRow.cells hg (g := g) rfl j (.int .i64 (P j)) (by rw [List.getElem?_map, pileL_at m P hj]; rfl)
   rwa [Addr.add_lit, Nat.zero_add] at this
  ·unfold Grow
   rw [pileL_len]
   refine ⟨by simp [pileL], .inr ⟨g, c, cur, rfl, e1, e2, by omega, e4, e5, ?_⟩⟩
   rw [Nat.mul_one] at e6 ⊢
   rw [← pileL_take m m' P hm', List.map_take, ← e6, List.take_take, Nat.min_eq_left hm']
theorem RPt.app (h : RPt w B vb L V v m P) {v' : Value} {r : Int} (hg : Grow w' B v' (pileL m P ++ [r])) (hw : w.grownBy w' v.ownBlock) (hv : v'.ownBlock = v.ownBlock ∨ ∃ g, v'.ownBlock = some g ∧ w.heap.size ≤ g) : RPt w' B vb L V v' (m + 1) (updF P m r) := by
 have hblk : w'.heap[vb]? = w.heap[vb]? := hw.block vb h.lv (fun e => h.ap e.symm)
 refine ⟨by rw [pileL_push] at hg; exact hg, fun j hj => ⟨(World.cell?_of_block (a := ⟨vb, j, none⟩) hblk).trans (h.vals j hj).1, (World.frozen?_of_block (a := ⟨vb, j, none⟩) hblk).trans (h.vals j hj).2⟩, Nat.lt_of_lt_of_le h.lv hw.size, h.bv, ?_⟩
 rcases hv with e | ⟨g, e, hge⟩
 ·rw [e]; exact h.ap
 ·rw [e]
  intro e2
  injection e2 with e2
  have := h.lv
  omega
end
theorem MReach.head {kn : Kn} {l : List Bk} {x y : MS} (h : MReach kn l x y) : ∀ {z}, x.at_ < l.length → mstep kn (bnth l x.at_) x = some z → x = y ∨ MReach kn l z y := by
 induction h with
 | refl => intro z _ _; exact .inl rfl
 | step k1 k2 k3 ik =>
   intro z hz1 hz2
   rcases ik hz1 hz2 with e | e
   ·subst e
    rw [hz2] at k3
    injection k3 with k3
    subst k3
    exact .inr (.refl _)
   ·exact .inr (.step e k2 k3)
theorem MReach.line {kn : Kn} {l : List Bk} {a s : MS} (h : MReach kn l a s) : ∀ {t : MS}, MReach kn l a t → MReach kn l s t ∨ MReach kn l t s := by
 induction h with
 | refl => intro t ht; exact .inl ht
 | step h1 h2 h3 ih =>
   intro t ht
   rcases ih ht with h | h
   ·rcases h.head h2 h3 with e | e
    ·subst e; exact .inr (.step (.refl _) h2 h3)
    ·exact .inl e
   ·exact .inr (h.step h2 h3)
def Fin (kn : Kn) (l : List Bk) (s : MS) : Prop := s.at_ = l.length ∨ (s.at_ < l.length ∧ mstep kn (bnth l s.at_) s = none)
theorem MReach.fin {kn : Kn} {l : List Bk} {s t : MS} (h : MReach kn l s t) (hf : Fin kn l s) : t = s := by
 induction h with
 | refl => rfl
 | step k1 k2 k3 ik =>
   have e := ik
   subst e
   rcases hf with h | ⟨_, h⟩
   ·omega
   ·rw [h] at k3; cases k3
theorem MReach.one {kn : Kn} {l : List Bk} {a s t : MS} (hs : MReach kn l a s) (ht : MReach kn l a t) (fs : Fin kn l s) (ft : Fin kn l t) : t = s := by
 rcases hs.line ht with h | h
 ·exact h.fin fs
 ·exact (h.fin ft).symm
end Go.Proofs.YtmlpedgcpffpnaaGreatDoor
