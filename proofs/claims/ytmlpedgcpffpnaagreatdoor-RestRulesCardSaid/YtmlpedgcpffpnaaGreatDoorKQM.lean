/-
  Promise F1: the parser: its box, and how tokens are looked at and taken.
-/
import Derived.Test.YtmlpedgcpffpnaaGreatDoorKZ0
import Derived.Test.YtmlpedgcpffpnaaGreatDoorKQ2
import Derived.Test.YtmlpedgcpffpnaaGreatDoorKQL
import Derived.Deep.RegionHeld
import Derived.Recover
set_option linter.unusedSimpArgs false
set_option maxRecDepth 100000
set_option maxHeartbeats 8000000
namespace Go.Proofs.YtmlpedgcpffpnaaGreatDoor
open Go.RowKit
def tqV (r : Tk) : Value := .agg #[.int .i64 r.k, .string r.txt, .int .i64 r.num, .bool r.pt, .int .i64 r.pos]
structure PrAt (w : World) (pb g c : Nat) (T : List Tk) (k : Nat) : Prop where
 lt : pb < w.heap.size
 gl : g < w.heap.size
 ne : pb ≠ g
 cap : T.length - k <= c
 box : w.cell? ⟨pb, 0, none⟩ = some (.slice (some ⟨g, k * 5, none⟩) (T.length - k) c)
 free : w.frozen? ⟨pb, 0, none⟩ = false
 toks : ∀ j, j < T.length -> TkIs w g (j * 5) (tkth T j)
theorem PrAt.below {w w' : World} {pb g c : Nat} {T : List Tk} {k : Nat} (h : PrAt w pb g c T k) (hb : Below w.heap.size w w') : PrAt w' pb g c T k :=
 ⟨Nat.lt_of_lt_of_le h.lt hb.size, Nat.lt_of_lt_of_le h.gl hb.size, h.ne, h.cap, (hb.cell (p := ⟨pb, 0, none⟩) h.lt).trans h.box, (hb.frozen (p := ⟨pb, 0, none⟩) h.lt).trans h.free, fun j hj => (h.toks j hj).below hb h.gl⟩
theorem PrAt.take {w : World} {pb g c : Nat} {T : List Tk} {k : Nat} (h : PrAt w pb g c T k) (hk : k < T.length) : PrAt (w.setCell ⟨pb, 0, none⟩ (.slice (some ⟨g, k * 5 + 5, none⟩) (T.length - k - 1) (c - 1))) pb g (c - 1) T (k + 1) := by
 have far : ∀ o v, w.cell? ⟨g, o, none⟩ = some v -> (w.setCell ⟨pb, 0, none⟩ (.slice (some ⟨g, k * 5 + 5, none⟩) (T.length - k - 1) (c - 1))).cell? ⟨g, o, none⟩ = some v := fun o v hv => (World.cell?_setCell_far w ⟨pb, 0, none⟩ ⟨g, o, none⟩ _ h.ne).trans hv
 refine ⟨by simp; exact h.lt, by simp; exact h.gl, h.ne, by have := h.cap; omega, ?_, by simp; exact h.free, fun j hj => ?_⟩
 ·rw [show (k + 1) * 5 = k * 5 + 5 by omega, show T.length - (k + 1) = T.length - k - 1 by omega];exact World.cell?_setCell_same w _ _ h.box
 ·obtain ⟨a0, a1, a2, a3, a4⟩ := h.toks j hj;exact ⟨far _ _ a0, far _ _ a1, far _ _ a2, far _ _ a3, far _ _ a4⟩
theorem grown_of {w w1 w' : World} {pb : Nat} (h : ∀ b, b ≠ pb -> w1.heap[b]? = w.heap[b]?) (h0 : w1.os = w.os /\ w1.tape = w.tape /\ w1.output = w.output /\ w1.heap.size = w.heap.size) (hb : Below w1.heap.size w1 w') : w.grownBy w' (some pb) :=
 ⟨hb.os.trans h0.1, hb.tape.trans h0.2.1, hb.output.trans h0.2.2.1, by have := hb.size; have := h0.2.2.2; omega, fun b hb1 hb2 => (hb.block b (by rw [h0.2.2.2]; exact hb1)).trans (h b fun e => hb2 (by rw [e]))⟩
def noTok : Obj := .cells #[.int .i64 0, .string ⟨#[]⟩, .int .i64 0, .bool false, .int .i64 0] 94
theorem peek_any (pb g c : Nat) (T : List Tk) (k : Nat) (w : World) (h : PrAt w pb g c T k) (hk : k < T.length) :
 Calls Tryz.prog 122 #[.pointer (some ⟨pb, 0, none⟩)] w fun e w' => e = .returned (tqV (tkth T k)) /\ Below w.heap.size w w' := by
 obtain ⟨m, hm⟩ : ∃ m, T.length - k = m := ⟨_, rfl⟩;obtain ⟨r, hr⟩ : ∃ r, tkth T k = r := ⟨_, rfl⟩;have hm0 : 0 < m := by omega
 have hm0' : (0 : Int) < (m : Int) := by omega
 have HZ := Hd (kbelow_box w noTok);obtain ⟨t0, t1, t2, t3, t4⟩ := h.toks k hk;rw [hr] at t0 t1 t2 t3 t4 ⊢;have z0 := (HZ.out.cell (p := ⟨g, k * 5, none⟩) h.gl).trans t0;have z1 := (HZ.out.cell (p := ⟨g, k * 5 + 1, none⟩) h.gl).trans t1;have z2 := (HZ.out.cell (p := ⟨g, k * 5 + 2, none⟩) h.gl).trans t2;have z3 := (HZ.out.cell (p := ⟨g, k * 5 + 3, none⟩) h.gl).trans t3;have z4 := (HZ.out.cell (p := ⟨g, k * 5 + 4, none⟩) h.gl).trans t4;have zb := (HZ.out.cell (p := ⟨pb, 0, none⟩) h.lt).trans h.box;rw [hm] at zb;unfold noTok at z0 z1 z2 z3 z4 zb HZ;clear h hm hr t0 t1 t2 t3 t4;have HB0 := Hd (kbelow_box w (.cells #[.int .i64 r.k, .string r.txt, .int .i64 r.num, .bool r.pt, .int .i64 r.pos] 94))
 go_enter Tryz.func122, Tryz.ntmps122
 go_wp2_with fail
 refine bodyPost_ret (v := tqV r) (by simp [results, go_sem, tqV, Tryz.results122] <;> rfl) rfl ?_;exact ⟨rfl, HB0.out⟩
theorem next_any (pb g c : Nat) (T : List Tk) (k : Nat) (w : World) (h : PrAt w pb g c T k) (hk2 : k + 1 < T.length) :
 Calls Tryz.prog 125 #[.pointer (some ⟨pb, 0, none⟩)] w fun e w' => e = .returned (tqV (tkth T k)) /\ PrAt w' pb g (c - 1) T (k + 1) /\ w.grownBy w' (some pb) := by
 have hk : k < T.length := by omega
 obtain ⟨m, hm⟩ : ∃ m, T.length - k = m := ⟨_, rfl⟩;obtain ⟨r, hr⟩ : ∃ r, tkth T k = r := ⟨_, rfl⟩;have hm0 : 0 < m := by omega
 have hm0' : (0 : Int) < (m : Int) := by omega
 have HZ := Hd (kbelow_box w noTok);obtain ⟨t0, t1, t2, t3, t4⟩ := h.toks k hk;rw [hr] at t0 t1 t2 t3 t4 ⊢;have z0 := (HZ.out.cell (p := ⟨g, k * 5, none⟩) h.gl).trans t0;have z1 := (HZ.out.cell (p := ⟨g, k * 5 + 1, none⟩) h.gl).trans t1;have z2 := (HZ.out.cell (p := ⟨g, k * 5 + 2, none⟩) h.gl).trans t2;have z3 := (HZ.out.cell (p := ⟨g, k * 5 + 3, none⟩) h.gl).trans t3;have z4 := (HZ.out.cell (p := ⟨g, k * 5 + 4, none⟩) h.gl).trans t4;have zb := (HZ.out.cell (p := ⟨pb, 0, none⟩) h.lt).trans h.box;rw [hm] at zb;unfold noTok at z0 z1 z2 z3 z4 zb HZ;have hcm : m <= c := by have := h.cap; omega
 have hc3 : c ≠ 1 := by omega
 have HTK := Hd (h.take hk);have hm1 : T.length - k - 1 = m - 1 := by omega
 rw [hm1] at HTK;clear hm1;have hc1 : (1 : Int) <= (m : Int) := by omega
 have hc2 : (1 : Int) <= (c : Int) := by omega
 have hcm' : (m : Int) <= (c : Int) := by omega
 have HZ2 := Hd (kbelow_box (w.alloc noTok) (.cells #[.int .i64 r.k, .string r.txt, .int .i64 r.num, .bool r.pt, .int .i64 r.pos] 94));have hpl : pb < (w.alloc noTok).heap.size := Nat.lt_of_lt_of_le h.lt (kbelow_box w noTok).size;have yb := (HZ2.out.cell (p := ⟨pb, 0, none⟩) hpl).trans zb;have yf := (HZ2.out.frozen (p := ⟨pb, 0, none⟩) hpl).trans (((kbelow_box w noTok).frozen (p := ⟨pb, 0, none⟩) h.lt).trans h.free);have hpw : pb ≠ w.heap.size := by have := h.lt; omega
 have hpw' : pb < w.heap.size := h.lt;unfold noTok at yb yf HZ2;clear hm hr t0 t1 t2 t3 t4
 go_enter Tryz.func125, Tryz.ntmps125
 go_wp2_with fail
 have HB9 := Hd ((kbelow_box (w.setCell ⟨pb, 0, none⟩ (.slice (some ⟨g, k * 5 + 5, none⟩) (m - 1) (c - 1))) (.cells #[.int .i64 r.k, .string r.txt, .int .i64 r.num, .bool r.pt, .int .i64 r.pos] 94)).trans ((kbelow_box ((w.setCell ⟨pb, 0, none⟩ (.slice (some ⟨g, k * 5 + 5, none⟩) (m - 1) (c - 1))).alloc (.cells #[.int .i64 r.k, .string r.txt, .int .i64 r.num, .bool r.pt, .int .i64 r.pos] 94)) (.cells #[.int .i64 r.k, .string r.txt, .int .i64 r.num, .bool r.pt, .int .i64 r.pos] 94)).mono (kbelow_box _ _).size));refine bodyPost_ret (v := tqV r) (by simp [results, go_sem, tqV, Tryz.results125] <;> rfl) rfl ?_;refine ⟨rfl, HTK.out.below HB9.out, grown_of (w1 := w.setCell ⟨pb, 0, none⟩ (.slice (some ⟨g, k * 5 + 5, none⟩) (m - 1) (c - 1))) (fun b hb => Below.heap_setCell w ⟨pb, 0, none⟩ _ b hb) ⟨rfl, rfl, rfl, by simp⟩ HB9.out⟩
def noT : ByteArray := ⟨#[]⟩
def leafX (k n : Int) (s : ByteArray) : Ex := .mk k n s 0 fun _ => .no
def oneX (k n : Int) (s : ByteArray) (e : Ex) : Ex := .mk k n s 1 fun _ => e
def twoX (k : Int) (e f : Ex) : Ex := .mk k 0 noT 2 fun j => if j = 0 then e else f
def fourX (n : Int) (a b c d : Ex) : Ex := .mk 13 n noT 4 fun j => if j = 0 then a else if j = 1 then b else if j = 2 then c else d
def isT (T : List Tk) (k : Nat) (l : List UInt8) : Bool := (tkth T k).txt.data.toList == l
def kdT (T : List Tk) (k : Nat) : Int := (tkth T k).k
def nmT (T : List Tk) (k : Nat) : Int := (tkth T k).num
def tstT (T : List Tk) (k : Nat) : Option Int := if kdT T k = 3 then if isT T k [60] then some 1 else if isT T k [60, 61] then some 2 else if isT T k [61] then some 3 else none else none
def facT (T : List Tk) (k : Nat) : Option Int := if kdT T k = 2 then if (tkth T k).pt then none else if nmT T k / 100 < 1 \/ 1000000 < nmT T k / 100 then none else some (nmT T k / 100) else none
def namT (T : List Tk) (k : Nat) : Option ByteArray := if kdT T k = 1 then some (tkth T k).txt else none
inductive Lv where
 | ex | su | pr | pa
 | sl (e : Ex) | pl (e : Ex)
def prs (T : List Tk) : Nat -> Lv -> Nat -> Option (Ex × Nat)
 | 0, _, _ => none
 | f + 1, .ex, k => if isT T k [105, 102] then (prs T f .su (k + 1)).bind fun a => (tstT T a.2).bind fun t => (prs T f .su (a.2 + 1)).bind fun b => if isT T b.2 [116, 104, 101, 110] then (prs T f .ex (b.2 + 1)).bind fun c => if isT T c.2 [101, 108, 115, 101] then (prs T f .ex (c.2 + 1)).bind fun d => some (fourX t a.1 b.1 c.1 d.1, d.2) else none else none else prs T f .su k
 | f + 1, .su, k => (prs T f .pr k).bind fun a => prs T f (.sl a.1) a.2
 | f + 1, .sl e, k => if isT T k [43] then (prs T f .pr (k + 1)).bind fun a => prs T f (.sl (twoX 7 e a.1)) a.2 else if isT T k [45] then (prs T f .pr (k + 1)).bind fun a => prs T f (.sl (twoX 8 e a.1)) a.2 else some (e, k)
 | f + 1, .pr, k => (prs T f .pa k).bind fun a => prs T f (.pl a.1) a.2
 | f + 1, .pl e, k => if isT T k [42] then (facT T (k + 1)).bind fun n => prs T f (.pl (oneX 9 n noT e)) (k + 2) else if isT T k [47] then (facT T (k + 1)).bind fun n => prs T f (.pl (oneX 10 n noT e)) (k + 2) else some (e, k)
 | f + 1, .pa, k =>
   if kdT T k = 2 then if isT T (k + 1) [37] then if 1000000 < nmT T k then none else if isT T (k + 2) [111, 102] then (prs T f .pa (k + 3)).bind fun a => some (oneX 4 (nmT T k) noT a.1, a.2) else none else some (leafX 1 (nmT T k) noT, k + 1)
   else if kdT T k = 1 then some (leafX 2 0 (tkth T k).txt, k + 1)
   else if isT T k [121, 101, 97, 114] then (namT T (k + 1)).bind fun s => some (leafX 3 0 s, k + 2)
   else if isT T k [116, 97, 98, 108, 101] then (namT T (k + 1)).bind fun s => if isT T (k + 2) [111, 102] then (prs T f .pa (k + 3)).bind fun a => some (oneX 5 0 s a.1, a.2) else none
   else if isT T k [45] then (prs T f .pa (k + 1)).bind fun a => some (oneX 6 0 noT a.1, a.2)
   else if isT T k [109, 105, 110] then if isT T (k + 1) [40] then (prs T f .ex (k + 2)).bind fun a => if isT T a.2 [44] then (prs T f .ex (a.2 + 1)).bind fun b => if isT T b.2 [41] then some (twoX 11 a.1 b.1, b.2 + 1) else none else none else none
   else if isT T k [109, 97, 120] then if isT T (k + 1) [40] then (prs T f .ex (k + 2)).bind fun a => if isT T a.2 [44] then (prs T f .ex (a.2 + 1)).bind fun b => if isT T b.2 [41] then some (twoX 12 a.1 b.1, b.2 + 1) else none else none else none
   else if isT T k [40] then (prs T f .ex (k + 1)).bind fun a => if isT T a.2 [41] then some (a.1, a.2 + 1) else none
   else none
def lkT (T : List Tk) (k : Nat) : Int := if isT T k [101, 97, 114, 110] then 1 else if isT T k [116, 97, 107, 101] then 2 else if isT T k [116, 97, 120] then 3 else if isT T k [108, 101, 116] then 4 else 0
def fuelT (T : List Tk) : Nat := 8 * T.length + 8
def lnT (T : List Tk) (k : Nat) : Option (Ln × Nat) := if lkT T k = 0 then none else (namT T (k + 1)).bind fun s => if isT T (k + 2) [61] then (prs T (fuelT T) .ex (k + 3)).bind fun a => if isT T a.2 [59] then if 20 < a.1.depth then none else some (⟨lkT T k, s, a.1⟩, a.2 + 1) else none else none
def lnsT (T : List Tk) : Nat -> Nat -> Nat -> Option (List Ln)
 | 0, _, _ => none
 | f + 1, c, k => if T.length <= k + 1 then some [] else if c = 40 then none else (lnT T k).bind fun a => (lnsT T f (c + 1) a.2).bind fun l => some (a.1 :: l)
def linesT (T : List Tk) : Option (List Ln) := lnsT T (T.length + 1) 0 0
structure TokOk (T : List Tk) : Prop where
 pos : 0 < T.length
 endK : kdT T (T.length - 1) = 0
 endT : (tkth T (T.length - 1)).txt = noT
 size : ∀ j, j < T.length -> (tkth T j).txt.size <= 4000
 num : ∀ j, j < T.length -> 0 <= nmT T j /\ nmT T j <= 1000000000000
 long : T.length <= 4001
 full : ∀ j, j < T.length -> kdT T j ≠ 0 -> (tkth T j).txt ≠ noT
 nam : ∀ j, j < T.length -> kdT T j = 1 -> NameP (tkth T j).txt
theorem isT_eq {T : List Tk} {k : Nat} {l : List UInt8} : isT T k l = true ↔ (tkth T k).txt = ⟨l.toArray⟩ := by
 unfold isT;rw [beq_iff_eq]
 constructor
 ·intro h;rw [<- h]
 ·intro h;rw [h]
theorem TokOk.text {T : List Tk} (h : TokOk T) {k : Nat} (hk : k < T.length) {l : List UInt8} (ht : isT T k l = true) (hl : l ≠ []) : k + 1 < T.length := by
 by_cases e : k = T.length - 1
 ·rw [isT_eq, e, h.endT] at ht;injection ht with ht
  have : (#[] : Array UInt8).toList = l := by rw [ht]
  exact absurd this.symm hl
 ·omega
theorem TokOk.kind {T : List Tk} (h : TokOk T) {k : Nat} (hk : k < T.length) {z : Int} (ht : kdT T k = z) (hz : z ≠ 0) : k + 1 < T.length := by
 by_cases e : k = T.length - 1
 ·rw [e, h.endK] at ht; exact absurd ht.symm hz
 ·omega
def goneR (e a : Int) : List PanicEntry := [{ v := .iface 158 (.agg #[.int .i64 e, .int .i64 a]), recovered := false }]
theorem rgive_any (e a : Int) (w : World) : Calls Tryz.prog 124 #[.int .i64 e, .int .i64 a] w fun x w' => x = .panicked (goneR e a) /\ w' = w := by
 go_enter Tryz.func124, Tryz.ntmps124
 go_wp2_with fail
 exact ⟨rfl, rfl, rfl⟩
def PrA (w : World) (pb g : Nat) (T : List Tk) (k : Nat) : Prop := (∃ c, PrAt w pb g c T k) /\ k < T.length
theorem PrA.below {w w' : World} {pb g : Nat} {T : List Tk} {k : Nat} (h : PrA w pb g T k) (hb : Below w.heap.size w w') : PrA w' pb g T k := by
 obtain ⟨⟨c, h⟩, hk⟩ := h;exact ⟨⟨c, h.below hb⟩, hk⟩
theorem PrA.lt {w : World} {pb g : Nat} {T : List Tk} {k : Nat} (h : PrA w pb g T k) : pb < w.heap.size := by
 obtain ⟨⟨c, h⟩, hk⟩ := h;exact h.lt
theorem gr_below {w w' : World} (pb : Nat) (h : Below w.heap.size w w') : w.grownBy w' (some pb) := ⟨h.os, h.tape, h.output, h.size, fun b hb _ => h.block b hb⟩
theorem gr_trans {w w1 w' : World} {pb : Nat} (h : w.grownBy w1 (some pb)) (h' : w1.grownBy w' (some pb)) : w.grownBy w' (some pb) :=
 ⟨h'.os.trans h.os, h'.tape.trans h.tape, h'.output.trans h.output, Nat.le_trans h.size h'.size, fun b hb hn => (h'.block b (Nat.lt_of_lt_of_le hb h.size) hn).trans (h.block b hb hn)⟩
structure St (w w' : World) (pb g : Nat) (T : List Tk) (k : Nat) : Prop where
 lo : pb < w.heap.size /\ g < w.heap.size
 pr : PrA w' pb g T k
 gr : w.grownBy w' (some pb)
theorem St.refl {w : World} {pb g : Nat} {T : List Tk} {k : Nat} (h : PrA w pb g T k) : St w w pb g T k := ⟨⟨h.lt, by obtain ⟨⟨c, h⟩, _⟩ := h; exact h.gl⟩, h, World.grownBy.refl _ _⟩
theorem St.below {w w1 w' : World} {pb g : Nat} {T : List Tk} {k : Nat} (h : St w w1 pb g T k) (hb : Below w1.heap.size w1 w') : St w w' pb g T k := ⟨h.lo, h.pr.below hb, gr_trans h.gr (gr_below pb hb)⟩
theorem St.trans {w w1 w' : World} {pb g : Nat} {T : List Tk} {k j : Nat} (h : St w w1 pb g T k) (h' : St w1 w' pb g T j) : St w w' pb g T j := ⟨h.lo, h'.pr, gr_trans h.gr h'.gr⟩
def Gave (w : World) (pb : Nat) (e : Ending) (w' : World) : Prop := (∃ er at' : Int, er ≠ 0 /\ e = .panicked (goneR er at')) /\ w.grownBy w' (some pb)
theorem peekA {w : World} {pb g : Nat} {T : List Tk} {k : Nat} (h : PrA w pb g T k) :
 Calls Tryz.prog 122 #[.pointer (some ⟨pb, 0, none⟩)] w fun e w' => e = .returned (tqV (tkth T k)) /\ Below w.heap.size w w' := by
 obtain ⟨⟨c, h⟩, hk⟩ := h;exact peek_any pb g c T k w h hk
theorem nextA {w : World} {pb g : Nat} {T : List Tk} {k : Nat} (h : PrA w pb g T k) (hk2 : k + 1 < T.length) :
 Calls Tryz.prog 125 #[.pointer (some ⟨pb, 0, none⟩)] w fun e w' => e = .returned (tqV (tkth T k)) /\ St w w' pb g T (k + 1) := by
 obtain ⟨⟨c, h⟩, hk⟩ := h;refine (next_any pb g c T k w h hk2).mono ?_;rintro e w' ⟨he, hp, hg⟩;exact ⟨he, ⟨h.lt, h.gl⟩, ⟨⟨_, hp⟩, hk2⟩, hg⟩
theorem tq_k (a b c d e : Value) (W : World) : Sem.run Tryz.prog (Instr.field 94 (.agg #[a, b, c, d, e]) 0) W = .ok a W := by kernel_rfl
theorem tq_txt (a b c d e : Value) (W : World) : Sem.run Tryz.prog (Instr.field 94 (.agg #[a, b, c, d, e]) 1) W = .ok b W := by kernel_rfl
theorem tq_pos (a b c d e : Value) (W : World) : Sem.run Tryz.prog (Instr.field 94 (.agg #[a, b, c, d, e]) 4) W = .ok e W := by kernel_rfl
theorem lists_ne {s t : ByteArray} (h : ¬ s = t) : (s.toList == t.toList) = false := by
 rw [beq_eq_false_iff_ne];exact fun e => h (by rw [ByteArray.toList_eq, ByteArray.toList_eq] at e; exact ByteArray.ext (Array.toList_inj.1 e))
theorem accept_yes {w : World} {pb g : Nat} {T : List Tk} {k : Nat} (hT : TokOk T) (h : PrA w pb g T k) {l : List UInt8} (he : isT T k l = true) (hl : l ≠ []) :
 Calls Tryz.prog 163 #[.pointer (some ⟨pb, 0, none⟩), .string ⟨l.toArray⟩] w fun e w' => e = .returned (.bool true) /\ St w w' pb g T (k + 1) := by
 have HK := Hd (hT.text h.2 he hl);have HP := Hd (St.refl h);rw [isT_eq] at he;have HPK := Hd (peekA h);obtain ⟨⟨rk, rt, rn, rp, ro⟩, hr⟩ : ∃ r, tkth T k = r := ⟨_, rfl⟩;rw [hr] at HPK;have hfx := tq_txt (.int .i64 rk) (.string rt) (.int .i64 rn) (.bool rp) (.int .i64 ro);have hfk := tq_k (.int .i64 rk) (.string rt) (.int .i64 rn) (.bool rp) (.int .i64 ro);have hfp := tq_pos (.int .i64 rk) (.string rt) (.int .i64 rn) (.bool rp) (.int .i64 ro);rw [hr] at he
 dsimp only at he
 rw [<- he];have hee : (rt.toList == rt.toList) = true := beq_self_eq_true _;clear h hr he hT hl
 go_enter Tryz.func163, Tryz.ntmps163
 go_wp2_with fail
 refine HPK.out.mono ?_;rintro e w1 ⟨rfl, hb⟩;have HP1 := Hd (HP.out.below hb);clear hb HPK;unfold tqV;go_wp2_with fail
 refine (nextA HP1.out.pr HK.out).mono ?_;rintro e w2 ⟨rfl, hs⟩;have HP2 := Hd (HP1.out.trans hs);clear hs;go_wp2_with fail
 go_ret;exact ⟨rfl, HP2.out⟩
theorem accept_no {w : World} {pb g : Nat} {T : List Tk} {k : Nat} (h : PrA w pb g T k) {l : List UInt8} (he : isT T k l = false) :
 Calls Tryz.prog 163 #[.pointer (some ⟨pb, 0, none⟩), .string ⟨l.toArray⟩] w fun e w' => e = .returned (.bool false) /\ St w w' pb g T k := by
 have HP := Hd (St.refl h);have hne : ¬ (tkth T k).txt = ⟨l.toArray⟩ := fun e => by rw [isT_eq.2 e] at he; cases he
 have HPK := Hd (peekA h);obtain ⟨⟨rk, rt, rn, rp, ro⟩, hr⟩ : ∃ r, tkth T k = r := ⟨_, rfl⟩;rw [hr] at HPK;have hfx := tq_txt (.int .i64 rk) (.string rt) (.int .i64 rn) (.bool rp) (.int .i64 ro);have hfk := tq_k (.int .i64 rk) (.string rt) (.int .i64 rn) (.bool rp) (.int .i64 ro);have hfp := tq_pos (.int .i64 rk) (.string rt) (.int .i64 rn) (.bool rp) (.int .i64 ro);rw [hr] at hne
 dsimp only at hne
 generalize (⟨l.toArray⟩ : ByteArray) = t at *;have hee : (rt.toList == t.toList) = false := lists_ne hne;clear h hr he
 go_enter Tryz.func163, Tryz.ntmps163
 go_wp2_with fail
 refine HPK.out.mono ?_;rintro e w1 ⟨rfl, hb⟩;have HP1 := Hd (HP.out.below hb);clear hb HPK;unfold tqV;go_wp2_with fail
 go_ret;exact ⟨rfl, HP1.out⟩
theorem expect_yes {w : World} {pb g : Nat} {T : List Tk} {k : Nat} (hT : TokOk T) (h : PrA w pb g T k) {l : List UInt8} (he : isT T k l = true) (hl : l ≠ []) :
 Calls Tryz.prog 127 #[.pointer (some ⟨pb, 0, none⟩), .string ⟨l.toArray⟩] w fun e w' => e = .returned (.tuple #[]) /\ St w w' pb g T (k + 1) := by
 have HA := Hd (accept_yes hT h he hl);clear h he hT hl
 go_enter Tryz.func127, Tryz.ntmps127
 go_wp2_with fail
 refine HA.out.mono ?_;rintro e w1 ⟨rfl, hs⟩;have HP1 := Hd hs;clear hs HA;go_wp2_with fail
 exact ⟨rfl, .tuple #[], by simp [results, Tryz.results127], rfl, HP1.out⟩
theorem expect_no {w : World} {pb g : Nat} {T : List Tk} {k : Nat} (h : PrA w pb g T k) {l : List UInt8} (he : isT T k l = false) :
 Calls Tryz.prog 127 #[.pointer (some ⟨pb, 0, none⟩), .string ⟨l.toArray⟩] w fun e w' => Gave w pb e w' := by
 have HA := Hd (accept_no h he);obtain ⟨⟨rk, rt, rn, rp, ro⟩, hr⟩ : ∃ r, tkth T k = r := ⟨_, rfl⟩;have hfp := tq_pos (.int .i64 rk) (.string rt) (.int .i64 rn) (.bool rp) (.int .i64 ro);have HR := Hd hr;clear h he hr
 go_enter Tryz.func127, Tryz.ntmps127
 go_wp2_with fail
 refine HA.out.mono ?_;rintro e w1 ⟨rfl, hs⟩;have HP1 := Hd hs;clear hs HA;go_wp2_with fail
 refine (peekA HP1.out.pr).mono ?_;rintro e w2 ⟨rfl, hb⟩;have HP2 := Hd (HP1.out.below hb);clear hb;rw [HR.out];unfold tqV;go_wp2_with fail
 refine (rgive_any 1 ro w2).mono ?_;rintro e w3 ⟨rfl, hw⟩;subst w3;go_wp2_with fail
 exact ⟨rfl, ⟨1, ro, by decide, rfl⟩, HP2.out.gr⟩
def Bxs (w : World) (g : Nat) (vs : List Value) : Prop := ∀ i v, vs[i]? = some v -> w.cell? ⟨g, i, none⟩ = some v /\ w.frozen? ⟨g, i, none⟩ = false
theorem Bxs.to {w w' : World} {g : Nat} {vs : List Value} (h : Bxs w g vs) (hb : w'.heap[g]? = w.heap[g]?) : Bxs w' g vs := fun i v hv =>
 ⟨(World.cell?_of_block (a := ⟨g, i, none⟩) hb).trans (h i v hv).1, (World.frozen?_of_block (a := ⟨g, i, none⟩) hb).trans (h i v hv).2⟩
theorem Bxs.below {w w' : World} {g : Nat} {vs : List Value} (h : Bxs w g vs) (hb : Below w.heap.size w w') (hg : g < w.heap.size) : Bxs w' g vs := h.to (hb.block g hg)
theorem Bxs.grown {w w' : World} {g pb : Nat} {vs : List Value} (h : Bxs w g vs) (hb : w.grownBy w' (some pb)) (hg : g < w.heap.size) (hp : pb < g) : Bxs w' g vs := h.to (hb.block g hg fun e => by injection e with e; omega)
theorem Bxs.made (w : World) (vs : List Value) (T : TypeId) : Bxs (w.alloc (.cells vs.toArray T)) w.heap.size vs := by
 intro i v hv;have hi : i < vs.length := by
  by_cases h : i < vs.length
  ·exact h
  ·rw [List.getElem?_eq_none (by omega)] at hv; cases hv
 refine ⟨?_, ?_⟩
 ·simp [hv]
 ·simp
def putL (w : World) (g : Nat) : Nat -> List Value -> World
 | _, [] => w
 | i, v :: vs => putL (w.setCell ⟨g, i, none⟩ v) g (i + 1) vs
theorem putL_size (g : Nat) : ∀ (us : List Value) (i : Nat) (w : World), (putL w g i us).heap.size = w.heap.size
 | [], _, _ => rfl
 | v :: us, i, w => by rw [putL, putL_size g us]; simp
theorem putL_block (g : Nat) {b : Nat} (hb : b ≠ g) : ∀ (us : List Value) (i : Nat) (w : World), (putL w g i us).heap[b]? = w.heap[b]?
 | [], _, _ => rfl
 | v :: us, i, w => by rw [putL, putL_block g hb us]; exact Below.heap_setCell w ⟨g, i, none⟩ _ b hb
theorem putL_rest (g : Nat) : ∀ (us : List Value) (i : Nat) (w : World), (putL w g i us).os = w.os /\ (putL w g i us).tape = w.tape /\ (putL w g i us).output = w.output
 | [], _, _ => ⟨rfl, rfl, rfl⟩
 | v :: us, i, w => by rw [putL]; exact putL_rest g us (i + 1) (w.setCell ⟨g, i, none⟩ v)
theorem putL_frozen (g : Nat) (a : Addr) : ∀ (us : List Value) (i : Nat) (w : World), (putL w g i us).frozen? a = w.frozen? a
 | [], _, _ => rfl
 | v :: us, i, w => by rw [putL, putL_frozen g a us, World.frozen?_setCell]
theorem putL_ahead (g : Nat) {j : Nat} : ∀ (us : List Value) (i : Nat) (w : World), j < i -> (putL w g i us).cell? ⟨g, j, none⟩ = w.cell? ⟨g, j, none⟩
 | [], _, _, _ => rfl
 | v :: us, i, w, h => by rw [putL, putL_ahead g us (i + 1) _ (by omega), World.cell?_setCell_other (h := fun e => by injection e; omega)]
theorem putL_cell (g : Nat) : ∀ (us : List Value) (i : Nat) (w : World), (∀ j, j < us.length -> ∃ v, w.cell? ⟨g, i + j, none⟩ = some v) -> ∀ j u, us[j]? = some u -> (putL w g i us).cell? ⟨g, i + j, none⟩ = some u
 | [], _, _, _, j, u, hu => by cases hu
 | v :: us, i, w, h, j, u, hu => by
   rw [putL]
   cases j with
   | zero =>
     obtain ⟨v0, h0⟩ := h 0 (by simp);rw [List.getElem?_cons_zero] at hu;injection hu with hu
     subst hu;rw [Nat.add_zero] at h0 ⊢;rw [putL_ahead g us (i + 1) _ (by omega)];exact World.cell?_setCell_same _ _ _ h0
   | succ j =>
     rw [List.getElem?_cons_succ] at hu
     have := putL_cell g us (i + 1) (w.setCell ⟨g, i, none⟩ v) (fun q hq => by
      obtain ⟨v1, h1⟩ := h (q + 1) (by simp; omega);refine ⟨v1, ?_⟩;rw [World.cell?_setCell_other (h := fun e => by injection e; omega), show i + 1 + q = i + (q + 1) by omega];exact h1) j u hu
     rw [show i + (j + 1) = i + 1 + j by omega];exact this
theorem Bxs.put {w : World} {g : Nat} {vs : List Value} (h : Bxs w g vs) (us : List Value) (hl : us.length = vs.length) : Bxs (putL w g 0 us) g us := by
 intro i u hu;have hi : i < us.length := by
  by_cases h : i < us.length
  ·exact h
  ·rw [List.getElem?_eq_none (by omega)] at hu; cases hu
 refine ⟨?_, ?_⟩
 ·have := putL_cell g us 0 w (fun j hj => ⟨vs[j]'(by omega), by rw [Nat.zero_add]; exact (h j _ (List.getElem?_eq_getElem (by omega))).1⟩) i u hu
  rwa [Nat.zero_add] at this
 ·rw [putL_frozen];exact (h i _ (List.getElem?_eq_getElem (by omega : i < vs.length))).2
theorem gr_put {w w1 : World} {pb g : Nat} (h : w.grownBy w1 (some pb)) (hg : w.heap.size <= g) (i : Nat) (us : List Value) : w.grownBy (putL w1 g i us) (some pb) :=
 ⟨(putL_rest g us i w1).1.trans h.os, (putL_rest g us i w1).2.1.trans h.tape, (putL_rest g us i w1).2.2.trans h.output, by rw [putL_size]; exact h.size, fun b hb hn => (putL_block g (by omega) us i w1).trans (h.block b hb hn)⟩
theorem PrAt.to {w w' : World} {pb g c : Nat} {T : List Tk} {k : Nat} (h : PrAt w pb g c T k) (hp : w'.heap[pb]? = w.heap[pb]?) (hg : w'.heap[g]? = w.heap[g]?) (hs : w.heap.size <= w'.heap.size) : PrAt w' pb g c T k := by
 have cg : ∀ o, w'.cell? ⟨g, o, none⟩ = w.cell? ⟨g, o, none⟩ := fun o => World.cell?_of_block (a := ⟨g, o, none⟩) hg
 refine ⟨Nat.lt_of_lt_of_le h.lt hs, Nat.lt_of_lt_of_le h.gl hs, h.ne, h.cap, (World.cell?_of_block (a := ⟨pb, 0, none⟩) hp).trans h.box, (World.frozen?_of_block (a := ⟨pb, 0, none⟩) hp).trans h.free, fun j hj => ?_⟩;obtain ⟨a0, a1, a2, a3, a4⟩ := h.toks j hj;exact ⟨(cg _).trans a0, (cg _).trans a1, (cg _).trans a2, (cg _).trans a3, (cg _).trans a4⟩
theorem St.put {w w1 : World} {pb g c : Nat} {T : List Tk} {k : Nat} (h : St w w1 pb g T k) (hc : w.heap.size <= c) (i : Nat) (us : List Value) : St w (putL w1 c i us) pb g T k := by
 obtain ⟨⟨cp, hp⟩, hk⟩ := h.pr;have := h.lo;exact ⟨h.lo, ⟨⟨cp, hp.to (putL_block c (by omega) us i w1) (putL_block c (by omega) us i w1) (by rw [putL_size]; exact Nat.le_refl _)⟩, hk⟩, gr_put h.gr hc i us⟩
theorem St.size {w w1 : World} {pb g : Nat} {T : List Tk} {k : Nat} (h : St w w1 pb g T k) : w.heap.size <= w1.heap.size := h.gr.size
theorem Bxs.st {w1 w2 : World} {pb g c k : Nat} {T : List Tk} {vs : List Value} (h : Bxs w1 c vs) (hs : St w1 w2 pb g T k) (hc : c < w1.heap.size) (hp : pb < c) : Bxs w2 c vs := h.grown hs.gr hc hp
theorem Bxs.four {w : World} {g : Nat} {a b c d : Value} (h : Bxs w g [a, b, c, d]) : (w.cell? ⟨g, 0, none⟩ = some a /\ w.cell? ⟨g, 1, none⟩ = some b /\ w.cell? ⟨g, 2, none⟩ = some c /\ w.cell? ⟨g, 3, none⟩ = some d) /\ (w.frozen? ⟨g, 0, none⟩ = false /\ w.frozen? ⟨g, 1, none⟩ = false /\ w.frozen? ⟨g, 2, none⟩ = false /\ w.frozen? ⟨g, 3, none⟩ = false) :=
 ⟨⟨(h 0 a rfl).1, (h 1 b rfl).1, (h 2 c rfl).1, (h 3 d rfl).1⟩, (h 0 a rfl).2, (h 1 b rfl).2, (h 2 c rfl).2, (h 3 d rfl).2⟩
theorem Bxs.five {w : World} {g : Nat} {a b c d e : Value} (h : Bxs w g [a, b, c, d, e]) : (w.cell? ⟨g, 0, none⟩ = some a /\ w.cell? ⟨g, 1, none⟩ = some b /\ w.cell? ⟨g, 2, none⟩ = some c /\ w.cell? ⟨g, 3, none⟩ = some d /\ w.cell? ⟨g, 4, none⟩ = some e) /\ (w.frozen? ⟨g, 0, none⟩ = false /\ w.frozen? ⟨g, 1, none⟩ = false /\ w.frozen? ⟨g, 2, none⟩ = false /\ w.frozen? ⟨g, 3, none⟩ = false /\ w.frozen? ⟨g, 4, none⟩ = false) :=
 ⟨⟨(h 0 a rfl).1, (h 1 b rfl).1, (h 2 c rfl).1, (h 3 d rfl).1, (h 4 e rfl).1⟩, (h 0 a rfl).2, (h 1 b rfl).2, (h 2 c rfl).2, (h 3 d rfl).2, (h 4 e rfl).2⟩
theorem Bxs.six {w : World} {g : Nat} {a b c d e f : Value} (h : Bxs w g [a, b, c, d, e, f]) : (w.cell? ⟨g, 0, none⟩ = some a /\ w.cell? ⟨g, 1, none⟩ = some b /\ w.cell? ⟨g, 2, none⟩ = some c /\ w.cell? ⟨g, 3, none⟩ = some d /\ w.cell? ⟨g, 4, none⟩ = some e /\ w.cell? ⟨g, 5, none⟩ = some f) /\ (w.frozen? ⟨g, 0, none⟩ = false /\ w.frozen? ⟨g, 1, none⟩ = false /\ w.frozen? ⟨g, 2, none⟩ = false /\ w.frozen? ⟨g, 3, none⟩ = false /\ w.frozen? ⟨g, 4, none⟩ = false /\ w.frozen? ⟨g, 5, none⟩ = false) :=
 ⟨⟨(h 0 a rfl).1, (h 1 b rfl).1, (h 2 c rfl).1, (h 3 d rfl).1, (h 4 e rfl).1, (h 5 f rfl).1⟩, (h 0 a rfl).2, (h 1 b rfl).2, (h 2 c rfl).2, (h 3 d rfl).2, (h 4 e rfl).2, (h 5 f rfl).2⟩
def tqL (r : Tk) : List Value := [.int .i64 r.k, .string r.txt, .int .i64 r.num, .bool r.pt, .int .i64 r.pos]
def noTk : Tk := ⟨0, ⟨#[]⟩, 0, false, 0⟩
theorem expectKind_yes {w : World} {pb g : Nat} {T : List Tk} {k : Nat} (hT : TokOk T) (h : PrA w pb g T k) {z : Int} (he : kdT T k = z) (hz : z ≠ 0) :
 Calls Tryz.prog 162 #[.pointer (some ⟨pb, 0, none⟩), .int .i64 z] w fun e w' => e = .returned (tqV (tkth T k)) /\ St w w' pb g T (k + 1) := by
 have HK := Hd (hT.kind h.2 he hz);have HB0 := Hd (kbelow_box w noTok);have HP0 := Hd ((St.refl h).below HB0.out);have HX0 := Hd (Bxs.made w (tqL noTk) 94);have hlt : pb < w.heap.size := h.lt;unfold kdT at he;obtain ⟨⟨rk, rt, rn, rp, ro⟩, hr⟩ : ∃ r, tkth T k = r := ⟨_, rfl⟩;rw [hr] at he ⊢
 dsimp only at he
 subst he;have HR := Hd hr;have hfk := tq_k (.int .i64 rk) (.string rt) (.int .i64 rn) (.bool rp) (.int .i64 ro);have hee : (rk != rk) = false := by simp
 have hsz : w.heap.size < (w.alloc noTok).heap.size := by simp
 clear h hr hT hz;unfold noTok at HP0 HB0 hsz;unfold tqL noTk at HX0
 go_enter Tryz.func162, Tryz.ntmps162
 go_wp2_with fail
 refine (peekA HP0.out.pr).mono ?_;rintro e w1 ⟨rfl, hb⟩;have HP1 := Hd (HP0.out.below hb);have HX1 := Hd (HX0.out.below hb hsz);have hsz1 : w.heap.size < w1.heap.size := Nat.lt_of_lt_of_le hsz hb.size;clear hb HX0 HP0 hsz;rw [HR.out];unfold tqV;go_wp2_with fail
 refine (nextA HP1.out.pr HK.out).mono ?_;rintro e w2 ⟨rfl, hs⟩;have HP2 := Hd (HP1.out.trans hs);have HX2 := Hd (HX1.out.st hs hsz1 hlt);clear hs HX1 HP1;obtain ⟨⟨x0, x1, x2, x3, x4⟩, z0, z1, z2, z3, z4⟩ := HX2.out.five;rw [HR.out];unfold tqV;go_wp2_with fail
 have HX3 := Hd (HX2.out.put (tqL ⟨rk, rt, rn, rp, ro⟩) rfl);have HP3 := Hd (HP2.out.put (Nat.le_refl _) 0 (tqL ⟨rk, rt, rn, rp, ro⟩));refine bodyPost_ret (v := tqV ⟨rk, rt, rn, rp, ro⟩) ?_ rfl ⟨rfl, HP3.out⟩;obtain ⟨⟨e0, e1, e2, e3, e4⟩, -⟩ := HX3.out.five;simp only [tqL, putL, Nat.zero_add, Nat.reduceAdd] at e0 e1 e2 e3 e4;simp [results, Tryz.results162, go_sem, e0, e1, e2, e3, e4, tqV]
theorem expectKind_no {w : World} {pb g : Nat} {T : List Tk} {k : Nat} (h : PrA w pb g T k) {z : Int} (he : kdT T k ≠ z) :
 Calls Tryz.prog 162 #[.pointer (some ⟨pb, 0, none⟩), .int .i64 z] w fun e w' => Gave w pb e w' := by
 have HB0 := Hd (kbelow_box w noTok);have HP0 := Hd ((St.refl h).below HB0.out);unfold kdT at he;obtain ⟨⟨rk, rt, rn, rp, ro⟩, hr⟩ : ∃ r, tkth T k = r := ⟨_, rfl⟩;rw [hr] at he
 dsimp only at he
 have HR := Hd hr;have hfk := tq_k (.int .i64 rk) (.string rt) (.int .i64 rn) (.bool rp) (.int .i64 ro);have hfp := tq_pos (.int .i64 rk) (.string rt) (.int .i64 rn) (.bool rp) (.int .i64 ro);have hee : (rk != z) = true := by simp [he]
 have hef : (rk == z) = false := by simp [he]
 clear h hr;unfold noTok at HP0 HB0
 go_enter Tryz.func162, Tryz.ntmps162
 go_wp2_with fail
 refine (peekA HP0.out.pr).mono ?_;rintro e w1 ⟨rfl, hb⟩;have HP1 := Hd (HP0.out.below hb);clear hb HP0;rw [HR.out];unfold tqV;go_wp2_with fail
 refine (peekA HP1.out.pr).mono ?_;rintro e w2 ⟨rfl, hb⟩;have HP2 := Hd (HP1.out.below hb);clear hb HP1;rw [HR.out];unfold tqV;go_wp2_with fail
 refine (rgive_any 1 ro w2).mono ?_;rintro e w3 ⟨rfl, hw⟩;subst w3;go_wp2_with fail
 exact ⟨rfl, ⟨1, ro, by decide, rfl⟩, HP2.out.gr⟩
theorem name_yes {w : World} {pb g : Nat} {T : List Tk} {k : Nat} (hT : TokOk T) (h : PrA w pb g T k) {s : ByteArray} (he : namT T k = some s) :
 Calls Tryz.prog 126 #[.pointer (some ⟨pb, 0, none⟩)] w fun e w' => e = .returned (.string s) /\ St w w' pb g T (k + 1) := by
 unfold namT at he
 by_cases h1 : kdT T k = 1
 ·rw [if_pos h1] at he;injection he with he
  have HE := Hd (expectKind_yes hT h h1 (by decide));obtain ⟨⟨rk, rt, rn, rp, ro⟩, hr⟩ : ∃ r, tkth T k = r := ⟨_, rfl⟩;rw [hr] at he HE
  dsimp only at he
  subst he;have hfx := tq_txt (.int .i64 rk) (.string rt) (.int .i64 rn) (.bool rp) (.int .i64 ro);clear h hr hT h1
  go_enter Tryz.func126, Tryz.ntmps126
  go_wp2_with fail
  refine HE.out.mono ?_;rintro e w1 ⟨rfl, hs⟩;have HP1 := Hd hs;clear hs HE;unfold tqV;go_wp2_with fail
  go_ret;exact ⟨rfl, HP1.out⟩
 ·rw [if_neg h1] at he
  cases he
theorem name_no {w : World} {pb g : Nat} {T : List Tk} {k : Nat} (h : PrA w pb g T k) (he : namT T k = none) :
 Calls Tryz.prog 126 #[.pointer (some ⟨pb, 0, none⟩)] w fun e w' => Gave w pb e w' := by
 unfold namT at he
 by_cases h1 : kdT T k = 1
 ·rw [if_pos h1] at he
  cases he
 ·have HE := Hd (expectKind_no h h1);clear h he h1
  go_enter Tryz.func126, Tryz.ntmps126
  go_wp2_with fail
  refine HE.out.mono ?_;rintro e w1 ⟨⟨er, at', h0, rfl⟩, hg⟩;have HG := Hd hg;have H0 := Hd h0;clear hg h0 HE;go_wp2_with fail
  exact ⟨rfl, ⟨er, at', H0.out, rfl⟩, HG.out⟩
def lwW : Nat -> ByteArray
 | 1 => ⟨#[101, 97, 114, 110]⟩
 | 2 => ⟨#[116, 97, 107, 101]⟩
 | 3 => ⟨#[116, 97, 120]⟩
 | 4 => ⟨#[108, 101, 116]⟩
 | _ => ⟨#[]⟩
def tsW : Nat -> ByteArray
 | 1 => ⟨#[60]⟩
 | 2 => ⟨#[60, 61]⟩
 | 3 => ⟨#[61]⟩
 | _ => ⟨#[]⟩
def LWs (w : World) : Prop := ∀ j, j < 5 -> w.cell? ⟨1, j, none⟩ = some (.string (lwW j))
def TSs (w : World) : Prop := ∀ j, j < 4 -> w.cell? ⟨3, j, none⟩ = some (.string (tsW j))
theorem index_lw0 (w : World) : (Instr.index 151 (.agg #[.string (lwW 0), .string (lwW 1), .string (lwW 2), .string (lwW 3), .string (lwW 4)]) (.int .i64 ((0 : Nat) : Int))).run Tryz.prog w = .ok (.string (lwW 0)) w := by kernel_rfl
theorem index_lw1 (w : World) : (Instr.index 151 (.agg #[.string (lwW 0), .string (lwW 1), .string (lwW 2), .string (lwW 3), .string (lwW 4)]) (.int .i64 ((1 : Nat) : Int))).run Tryz.prog w = .ok (.string (lwW 1)) w := by kernel_rfl
theorem index_lw2 (w : World) : (Instr.index 151 (.agg #[.string (lwW 0), .string (lwW 1), .string (lwW 2), .string (lwW 3), .string (lwW 4)]) (.int .i64 ((2 : Nat) : Int))).run Tryz.prog w = .ok (.string (lwW 2)) w := by kernel_rfl
theorem index_lw3 (w : World) : (Instr.index 151 (.agg #[.string (lwW 0), .string (lwW 1), .string (lwW 2), .string (lwW 3), .string (lwW 4)]) (.int .i64 ((3 : Nat) : Int))).run Tryz.prog w = .ok (.string (lwW 3)) w := by kernel_rfl
theorem index_lw4 (w : World) : (Instr.index 151 (.agg #[.string (lwW 0), .string (lwW 1), .string (lwW 2), .string (lwW 3), .string (lwW 4)]) (.int .i64 ((4 : Nat) : Int))).run Tryz.prog w = .ok (.string (lwW 4)) w := by kernel_rfl
theorem index_ts0 (w : World) : (Instr.index 202 (.agg #[.string (tsW 0), .string (tsW 1), .string (tsW 2), .string (tsW 3)]) (.int .i64 ((0 : Nat) : Int))).run Tryz.prog w = .ok (.string (tsW 0)) w := by kernel_rfl
theorem index_ts1 (w : World) : (Instr.index 202 (.agg #[.string (tsW 0), .string (tsW 1), .string (tsW 2), .string (tsW 3)]) (.int .i64 ((1 : Nat) : Int))).run Tryz.prog w = .ok (.string (tsW 1)) w := by kernel_rfl
theorem index_ts2 (w : World) : (Instr.index 202 (.agg #[.string (tsW 0), .string (tsW 1), .string (tsW 2), .string (tsW 3)]) (.int .i64 ((2 : Nat) : Int))).run Tryz.prog w = .ok (.string (tsW 2)) w := by kernel_rfl
theorem index_ts3 (w : World) : (Instr.index 202 (.agg #[.string (tsW 0), .string (tsW 1), .string (tsW 2), .string (tsW 3)]) (.int .i64 ((3 : Nat) : Int))).run Tryz.prog w = .ok (.string (tsW 3)) w := by kernel_rfl
theorem index_lw (w : World) {k : Nat} (h : k < 5) : (Instr.index 151 (.agg #[.string (lwW 0), .string (lwW 1), .string (lwW 2), .string (lwW 3), .string (lwW 4)]) (.int .i64 (k : Int))).run Tryz.prog w = .ok (.string (lwW k)) w := by
 match k, h with
 | 0, _ => exact index_lw0 w
 | 1, _ => exact index_lw1 w
 | 2, _ => exact index_lw2 w
 | 3, _ => exact index_lw3 w
 | 4, _ => exact index_lw4 w
theorem index_ts (w : World) {k : Nat} (h : k < 4) : (Instr.index 202 (.agg #[.string (tsW 0), .string (tsW 1), .string (tsW 2), .string (tsW 3)]) (.int .i64 (k : Int))).run Tryz.prog w = .ok (.string (tsW k)) w := by
 match k, h with
 | 0, _ => exact index_ts0 w
 | 1, _ => exact index_ts1 w
 | 2, _ => exact index_ts2 w
 | 3, _ => exact index_ts3 w
theorem lkT_at {T : List Tk} {k j : Nat} (hj : j < 5) (h : lwW j = (tkth T k).txt) : lkT T k = (j : Int) := by
 unfold lkT isT;rw [<- h]
 match j, hj with
 | 0, _ => rfl
 | 1, _ => rfl
 | 2, _ => rfl
 | 3, _ => rfl
 | 4, _ => rfl
theorem isT_no {T : List Tk} {k : Nat} {l : List UInt8} (h : ¬ (⟨l.toArray⟩ : ByteArray) = (tkth T k).txt) : isT T k l = false := by
 cases hb : isT T k l with
 | false => rfl
 | true => exact absurd (isT_eq.1 hb).symm h
theorem lkT_none {T : List Tk} {k : Nat} (h : ∀ j, j < 5 -> ¬ lwW j = (tkth T k).txt) : lkT T k = 0 := by
 unfold lkT;have h1 := isT_no (h 1 (by omega));have h2 := isT_no (h 2 (by omega));have h3 := isT_no (h 3 (by omega));have h4 := isT_no (h 4 (by omega));rw [h1, h2, h3, h4];rfl
theorem lineKind_any (T : List Tk) (k : Nat) (w : World) (hL : LWs w) :
 Calls Tryz.prog 123 #[.string (tkth T k).txt] w fun e w' => e = .returned (.int .i64 (lkT T k)) /\ w' = w := by
 have HA := Hd (fun j (hj : j < 5) h => lkT_at (T := T) (k := k) hj h);have HN := Hd (lkT_none (T := T) (k := k));have l0 := hL 0 (by omega);have l1 := hL 1 (by omega);have l2 := hL 2 (by omega);have l3 := hL 3 (by omega);have l4 := hL 4 (by omega);have HIX := Hd (fun j (hj : j < 5) => index_lw w hj);generalize lkT T k = z at *;generalize (tkth T k).txt = s at *;clear hL;generalize lwW = f at *
 go_enter Tryz.func123, Tryz.ntmps123
 go_wp2_with fail
 go_loopw [6] (fun i wr => ∃ j : Nat, j <= 5 /\ i = .int .i64 j /\ wr = w /\ ∀ q, q < j -> ¬ f q = s) (fun i _ => 5 - (intOf i).toNat)
 case atStart => exact ⟨0, by omega, rfl, rfl, fun q hq => absurd hq (by omega)⟩
 case round =>
  obtain ⟨j, hj, rfl, hw, hno⟩ := hrel;subst wr;have HNO := Hd hno;clear hno
  by_cases hlt : j < 5
  ·have hlt' : (j : Int) < 5 := by omega
   have hge' : (0 : Int) <= (j : Int) := by omega
   have hix := HIX.out j hlt
   by_cases he : f j = s
   ·have HZ := Hd (HA.out j hlt he);have hee : ((f j).toList == s.toList) = true := by rw [he]; exact beq_self_eq_true _
    clear he;go_wp2_with fail
    go_ret;exact ⟨kret_int HZ.out.symm, rfl⟩
   ·have hee : ((f j).toList == s.toList) = false := lists_ne he;have HNJ : Hid (∀ q, q < j + 1 -> ¬ f q = s) := fun q hq => by
     by_cases hqj : q = j
     ·rw [hqj]; exact he
     ·exact HNO.out q (by omega)
    clear he;go_wp2_with fail
    go_roundw
    case rel => exact ⟨j + 1, by omega, by go_num, (by first | trivial | rfl), HNJ.out⟩
    case measure => simp [intOf]; omega
  ·have hj5 : j = 5 := by omega
   subst hj5;have HZ := Hd (HN.out HNO.out);go_wp2_with fail
   go_ret;exact ⟨kret_int HZ.out.symm, rfl⟩
structure PEnv (w : World) (pb : Nat) : Prop where
 lw : LWs w
 ts : TSs w
 nl : pb ≠ 1
 nt : pb ≠ 3
theorem PEnv.gr {w w' : World} {pb : Nat} (h : PEnv w pb) (hs : w.grownBy w' (some pb)) : PEnv w' pb :=
 ⟨fun j hj => hs.cell (h.lw j hj) (fun e => by injection e with e; exact h.nl e.symm), fun j hj => hs.cell (h.ts j hj) (fun e => by injection e with e; exact h.nt e.symm), h.nl, h.nt⟩
theorem PEnv.st {w w' : World} {pb g k : Nat} {T : List Tk} (h : PEnv w pb) (hs : St w w' pb g T k) : PEnv w' pb := h.gr hs.gr
theorem PEnv.below {w w' : World} {pb : Nat} (h : PEnv w pb) (hb : Below w.heap.size w w') : PEnv w' pb := h.gr (gr_below pb hb)
theorem tstT_at {T : List Tk} {k j : Nat} (hT : TokOk T) (hk : k < T.length) (h3 : kdT T k = 3) (hj : j < 4) (h : tsW j = (tkth T k).txt) : tstT T k = some (j : Int) := by
 have hf := hT.full k hk (by omega);unfold tstT isT;rw [if_pos h3, <- h]
 match j, hj with
 | 0, _ => exact absurd h.symm hf
 | 1, _ => rfl
 | 2, _ => rfl
 | 3, _ => rfl
theorem tstT_none {T : List Tk} {k : Nat} (h : ∀ j, j < 4 -> ¬ tsW j = (tkth T k).txt) : tstT T k = none := by
 unfold tstT
 split
 ·rw [isT_no (h 1 (by omega)), isT_no (h 2 (by omega)), isT_no (h 3 (by omega))];rfl
 ·rfl
theorem tstT_three {T : List Tk} {k : Nat} {t : Int} (h : tstT T k = some t) : kdT T k = 3 := by
 unfold tstT at h
 split at h
 ·assumption
 ·cases h
def TstR (w w' : World) (pb g : Nat) (T : List Tk) (k : Nat) (e : Ending) : Option Int -> Prop
 | some t => e = .returned (.int .i64 t) /\ St w w' pb g T (k + 1)
 | none => Gave w pb e w'
theorem Gave.mono {w w1 w' : World} {pb : Nat} {e : Ending} (h : Gave w1 pb e w') (hg : w.grownBy w1 (some pb)) : Gave w pb e w' := ⟨h.1, gr_trans hg h.2⟩
theorem test_any {w : World} {pb g : Nat} {T : List Tk} {k : Nat} (hT : TokOk T) (hE : PEnv w pb) (h : PrA w pb g T k) :
 Calls Tryz.prog 165 #[.pointer (some ⟨pb, 0, none⟩)] w fun e w' => TstR w w' pb g T k e (tstT T k) := by
 by_cases h3 : kdT T k = 3
 ·have HA := Hd (fun j (hj : j < 4) he => tstT_at hT h.2 h3 hj he);have HN := Hd (tstT_none (T := T) (k := k));have HK := Hd (expectKind_yes hT h h3 (by decide));have HEN := Hd hE;obtain ⟨r, hr⟩ : ∃ r, tkth T k = r := ⟨_, rfl⟩;rw [hr] at HA HN HK;obtain ⟨rk, rt, rn, rp, ro⟩ := r
  dsimp only at HA HN
  generalize tstT T k = z at *;clear hT h hE h3 hr
  go_enter Tryz.func165, Tryz.ntmps165
  go_wp2_with fail
  refine HK.out.mono ?_;rintro e w1 ⟨rfl, hs⟩;have hB1 := kbelow_box w1 (.cells #[.int .i64 rk, .string rt, .int .i64 rn, .bool rp, .int .i64 ro] 94);have HP1 := Hd (hs.below hB1);have hEN := (HEN.out.st hs).below hB1;have l0 := hEN.ts 0 (by omega);have l1 := hEN.ts 1 (by omega);have l2 := hEN.ts 2 (by omega);have l3 := hEN.ts 3 (by omega);have HIX := Hd (fun W j (hj : j < 4) => index_ts W hj);have HX := Hd (Bxs.made w1 (tqL ⟨rk, rt, rn, rp, ro⟩) 94);clear hs hB1 hEN HEN HK;unfold tqL at HX;unfold tqV;generalize tsW = f at *;go_wp2_with fail
  obtain ⟨W, hW⟩ : ∃ W, w1.alloc (.cells #[.int .i64 rk, .string rt, .int .i64 rn, .bool rp, .int .i64 ro] 94) = W := ⟨_, rfl⟩;rw [hW] at HP1 l0 l1 l2 l3 ⊢;have HX2 : Hid (Bxs W w1.heap.size [.int .i64 rk, .string rt, .int .i64 rn, .bool rp, .int .i64 ro]) := by have := HX.out; rw [<- hW]; exact this
  clear hW HX
  go_loopw [9] (fun i wr => ∃ j : Nat, j <= 4 /\ i = .int .i64 j /\ wr = W /\ ∀ q, q < j -> ¬ f q = rt) (fun i _ => 4 - (intOf i).toNat)
  case atStart => exact ⟨0, by omega, rfl, rfl, fun q hq => absurd hq (by omega)⟩
  case round =>
   obtain ⟨j, hj, rfl, hw, hno⟩ := hrel;subst wr;have HNO := Hd hno;clear hno;obtain ⟨⟨x0, x1, x2, x3, x4⟩, -⟩ := HX2.out.five
   by_cases hlt : j < 4
   ·have hlt' : (j : Int) < 4 := by omega
    have hge' : (0 : Int) <= (j : Int) := by omega
    have hix := HIX.out W j hlt
    by_cases he : f j = rt
    ·have HZ := Hd (HA.out j hlt he);have hee : ((f j).toList == rt.toList) = true := by rw [he]; exact beq_self_eq_true _
     clear he;go_wp2_with fail
     go_ret;rw [HZ.out];exact ⟨rfl, HP1.out⟩
    ·have hee : ((f j).toList == rt.toList) = false := lists_ne he;have HNJ : Hid (∀ q, q < j + 1 -> ¬ f q = rt) := fun q hq => by
      by_cases hqj : q = j
      ·rw [hqj]; exact he
      ·exact HNO.out q (by omega)
     clear he;go_wp2_with fail
     go_roundw
     case rel => exact ⟨j + 1, by omega, by go_num, (by first | trivial | rfl), HNJ.out⟩
     case measure => simp [intOf]; omega
   ·have hj4 : j = 4 := by omega
    subst hj4;have HZ := Hd (HN.out HNO.out);go_wp2_with fail
    refine (rgive_any 1 ro W).mono ?_;rintro e w3 ⟨rfl, hw⟩;subst w3;go_wp2_with fail
    rw [HZ.out];exact ⟨rfl, ⟨1, ro, by decide, rfl⟩, HP1.out.gr⟩
 ·have HZ : Hid (tstT T k = none) := by
   unfold Hid
   cases ht : tstT T k with
   | none => rfl
   | some t => exact absurd (tstT_three ht) h3
  have HE := Hd (expectKind_no h h3);clear hT hE h h3
  go_enter Tryz.func165, Tryz.ntmps165
  go_wp2_with fail
  refine HE.out.mono ?_;rintro e w1 ⟨⟨er, at', h0, rfl⟩, hg⟩;have HG := Hd hg;have H0 := Hd h0;clear hg h0 HE;go_wp2_with fail
  rw [HZ.out];exact ⟨rfl, ⟨er, at', H0.out, rfl⟩, HG.out⟩
theorem factor_any {w : World} {pb g : Nat} {T : List Tk} {k : Nat} (hT : TokOk T) (h : PrA w pb g T k) :
 Calls Tryz.prog 200 #[.pointer (some ⟨pb, 0, none⟩)] w fun e w' => TstR w w' pb g T k e (facT T k) := by
 by_cases h2 : kdT T k = 2
 ·have HZ0 : Hid (facT T k = if (tkth T k).pt then none else if nmT T k / 100 < 1 \/ 1000000 < nmT T k / 100 then none else some (nmT T k / 100)) := by unfold Hid facT; rw [if_pos h2]
  have HK := Hd (expectKind_yes hT h h2 (by decide));have hnn := hT.num k h.2;unfold nmT at HZ0 hnn;obtain ⟨r, hr⟩ : ∃ r, tkth T k = r := ⟨_, rfl⟩;rw [hr] at HZ0 hnn HK;obtain ⟨rk, rt, rn, rp, ro⟩ := r
  dsimp only at HZ0 hnn
  generalize facT T k = z at *;clear hT h h2 hr;have hq : rn.tdiv 100 = rn / 100 := Int.tdiv_eq_ediv_of_nonneg hnn.1;have hqb : 0 <= rn / 100 /\ rn / 100 <= 10000000000 := by omega
  obtain ⟨q, hqq⟩ : ∃ q, rn / 100 = q := ⟨_, rfl⟩;rw [hqq] at hq hqb HZ0;have HQ := Hd hqq;clear hqq hnn
  go_enter Tryz.func200, Tryz.ntmps200
  go_wp2_with fail
  refine HK.out.mono ?_;rintro e w1 ⟨rfl, hs⟩;have HP1 := Hd (hs.below (kbelow_box w1 (.cells #[.int .i64 rk, .string rt, .int .i64 rn, .bool rp, .int .i64 ro] 94)));have HX := Hd (Bxs.made w1 (tqL ⟨rk, rt, rn, rp, ro⟩) 94);unfold tqL at HX;unfold tqV;clear hs HK
  cases rp with
  | true =>
    have HZ : Hid (z = none) := HZ0.out;clear HZ0;go_wp2_with fail
    obtain ⟨W, hW⟩ : ∃ W, w1.alloc (.cells #[.int .i64 rk, .string rt, .int .i64 rn, .bool true, .int .i64 ro] 94) = W := ⟨_, rfl⟩;rw [hW] at HP1 ⊢;clear hW HX;refine (rgive_any 1 ro W).mono ?_;rintro e w3 ⟨rfl, hw⟩;subst w3;go_wp2_with fail
    rw [HZ.out];exact ⟨rfl, ⟨1, ro, by decide, rfl⟩, HP1.out.gr⟩
  | false =>
    have HZ1 : Hid (z = if q < 1 \/ 1000000 < q then none else some q) := HZ0.out;clear HZ0
    by_cases c1 : q < 1
    ·have HZ : Hid (z = none) := by unfold Hid; rw [HZ1.out, if_pos (.inl c1)]
     clear HZ1;go_wp2_with fail
     obtain ⟨W, hW⟩ : ∃ W, w1.alloc (.cells #[.int .i64 rk, .string rt, .int .i64 rn, .bool false, .int .i64 ro] 94) = W := ⟨_, rfl⟩;rw [hW] at HP1 ⊢;clear hW HX;refine (rgive_any 3 ro W).mono ?_;rintro e w3 ⟨rfl, hw⟩;subst w3;go_wp2_with fail
     rw [HZ.out];exact ⟨rfl, ⟨3, ro, by decide, rfl⟩, HP1.out.gr⟩
    ·have c1B : decide (q < 1) = false := dEf c1
     by_cases c2 : 1000000 < q
     ·have HZ : Hid (z = none) := by unfold Hid; rw [HZ1.out, if_pos (.inr c2)]
      clear HZ1;go_wp2_with fail
      obtain ⟨W, hW⟩ : ∃ W, w1.alloc (.cells #[.int .i64 rk, .string rt, .int .i64 rn, .bool false, .int .i64 ro] 94) = W := ⟨_, rfl⟩;rw [hW] at HP1 ⊢;clear hW HX;refine (rgive_any 3 ro W).mono ?_;rintro e w3 ⟨rfl, hw⟩;subst w3;go_wp2_with fail
      rw [HZ.out];exact ⟨rfl, ⟨3, ro, by decide, rfl⟩, HP1.out.gr⟩
     ·have c2B : decide (1000000 < q) = false := dEf c2;have HZ : Hid (z = some q) := by unfold Hid; rw [HZ1.out, if_neg (by omega)]
      clear HZ1;go_wp2_with fail
      go_ret;rw [HZ.out];exact ⟨rfl, HP1.out⟩
 ·have HZ : Hid (facT T k = none) := by
   unfold Hid facT;rw [if_neg h2]
  have HE := Hd (expectKind_no h h2);clear hT h h2
  go_enter Tryz.func200, Tryz.ntmps200
  go_wp2_with fail
  refine HE.out.mono ?_;rintro e w1 ⟨⟨er, at', h0, rfl⟩, hg⟩;have HG := Hd hg;have H0 := Hd h0;clear hg h0 HE;go_wp2_with fail
  rw [HZ.out];exact ⟨rfl, ⟨er, at', H0.out, rfl⟩, HG.out⟩
theorem dep_mk (k n : Int) (s : ByteArray) (m : Nat) (kid : Nat -> Ex) : (Ex.mk k n s m kid).depth = 1 + maxN (fun j => (kid j).depth) m := by rw [Ex.depth]
theorem maxN_at {f : Nat -> Nat} {j m : Nat} (h : j < m) : f j <= maxN f m := Nat.le_trans (by simp [maxN]; omega) (maxN_le (f := f) (show j + 1 <= m from h))
theorem depth_any (x : Ex) : ∀ (a : Option Addr) (c : Nat) (w : World), x.depth <= 1000000 -> KidsAt w x a →
 Calls Tryz.prog 129 #[.agg #[.int .i64 x.k, .int .i64 x.n, .string x.s, .slice a x.m c]] w fun e w' => e = .returned (.int .i64 (x.depth : Int)) /\ Below w.heap.size w w' := by
 induction x with
 | no => intro a c w _ h; exact h.elim
 | mk k n s m kid ih =>
   intro a c w hd hk
   show Calls Tryz.prog 129 #[.agg #[.int .i64 k, .int .i64 n, .string s, .slice a m c]] w _
   have hm : m <= 9223372036854775807 := by have := hk.many; unfold maxLen at this; exact this
   have HK := Hd hk;have HB0 := Hd (kbelow_box w (.cells #[.int .i64 k, .int .i64 n, .string s, .slice a m c] 50));have HE := Hd (dep_mk k n s m kid);have HIH := Hd ih;have HD : Hid (∀ j, j <= m -> maxN (fun j => (kid j).depth) j <= 999999) := fun j hj => by
    have := maxN_le (f := fun j => (kid j).depth) hj;have := dep_mk k n s m kid;omega
   clear hk ih hd;generalize (Ex.mk k n s m kid).depth = z at *
   go_enter Tryz.func129, Tryz.ntmps129
   go_wp2_with fail
   go_loopw [3, 9] (fun lv i wr => ∃ (j r : Nat), j <= m /\ i = .int .i64 j /\ lv = .int .i64 r /\ maxN (fun j => (kid j).depth) j = r /\ Below w.heap.size w wr) (fun _ i _ => m - (intOf i).toNat)
   case atStart => exact ⟨0, 0, Nat.zero_le _, rfl, rfl, rfl, HB0.out⟩
   case round =>
    obtain ⟨j, r, hj, rfl, rfl, hf, hb⟩ := hrel;have HF := Hd hf;have HB := Hd hb;have hr6 : r <= 999999 := by have := HD.out j hj; omega
    clear hf hb
    by_cases hlt : j < m
    ·have hlt' : (j : Int) < (m : Int) := by omega
     obtain ⟨b, off, rfl, hcell⟩ := HK.out.open (show 0 < m by omega);obtain ⟨aj, cj, ⟨x0, x1, x2, x3⟩, hkj⟩ := hcell wr HB.out j hlt;have HKJ := Hd hkj;clear hcell hkj;have x0' : wr.cell? ⟨b, off + j * 4, none⟩ = some (.int .i64 (kid j).k) := x0;have x1' : wr.cell? ⟨b, off + j * 4 + 1, none⟩ = some (.int .i64 (kid j).n) := x1;have x2' : wr.cell? ⟨b, off + j * 4 + 2, none⟩ = some (.string (kid j).s) := x2;have x3' : wr.cell? ⟨b, off + j * 4 + 3, none⟩ = some (.slice aj (kid j).m cj) := x3;clear x0 x1 x2 x3;have HBJ := Hd (kbelow_box wr (.cells #[.int .i64 (kid j).k, .int .i64 (kid j).n, .string (kid j).s, .slice aj (kid j).m cj] 50));have HJ : Hid ((kid j).depth <= 999999 /\ maxN (fun j => (kid j).depth) (j + 1) = max r (kid j).depth) := by
      refine ⟨Nat.le_trans (maxN_at (f := fun j => (kid j).depth) hlt) (HD.out m (Nat.le_refl _)), ?_⟩;rw [<- HF.out]; rfl
     go_wp2_with fail
     refine (HIH.out j aj cj _ (by have := HJ.out.1; omega) (HKJ.out.below HBJ.out)).mono ?_;rintro e w1 ⟨rfl, hb1⟩;have HB1 := Hd (HB.out.trans ((HBJ.out.trans (hb1.mono HBJ.out.size)).mono HB.out.size));clear hb1 x0' x1' x2' x3';obtain ⟨d, hdd⟩ : ∃ d, (kid j).depth = d := ⟨_, rfl⟩;rw [hdd] at HJ ⊢;clear hdd;go_wp2_with fail
     go_roundw
     case rel => exact ⟨j + 1, max r d, by omega, by go_num, by rw [show (max (r : Int) (d : Int)) = ((max r d : Nat) : Int) by omega], HJ.out.2, HB1.out⟩
     case measure => simp [intOf]; omega
    ·have hjm : j = m := by omega
     subst hjm;have HR : Hid ((r : Int) + 1 = (z : Int)) := by unfold Hid; rw [HE.out, HF.out]; omega
     go_wp2_with fail
     go_ret;exact ⟨kret_int HR.out, HB.out⟩
theorem mk_err (k n : Int) (s : ByteArray) (m : Nat) (kid : Nat -> Ex) : (Ex.mk k n s m kid).err = if ownE k n s m = 0 then firstE (fun j => (kid j).err) m else ownE k n s m := by rw [Ex.err]
theorem mk_depth (k n : Int) (s : ByteArray) (m : Nat) (kid : Nat -> Ex) : (Ex.mk k n s m kid).depth = 1 + maxN (fun j => (kid j).depth) m := by rw [Ex.depth]
theorem mk_parts (k n : Int) (s : ByteArray) (m : Nat) (kid : Nat -> Ex) : (Ex.mk k n s m kid).parts = 1 + sumN (fun j => (kid j).parts) m := by rw [Ex.parts]
theorem leaf_depth (k n : Int) (s : ByteArray) : (leafX k n s).depth = 1 /\ (leafX k n s).parts = 1 := by
 unfold leafX; rw [mk_depth, mk_parts]; exact ⟨rfl, rfl⟩
theorem one_depth (k n : Int) (s : ByteArray) (e : Ex) : (oneX k n s e).depth = 1 + e.depth /\ (oneX k n s e).parts = 1 + e.parts := by
 unfold oneX; rw [mk_depth, mk_parts]; refine ⟨?_, ?_⟩ <;> simp [maxN, sumN]
theorem two_depth (k : Int) (e f : Ex) : (twoX k e f).depth = 1 + max e.depth f.depth /\ (twoX k e f).parts = 1 + (e.parts + f.parts) := by
 unfold twoX; rw [mk_depth, mk_parts]; refine ⟨?_, ?_⟩ <;> simp [maxN, sumN]
theorem four_depth (n : Int) (a b c d : Ex) : (fourX n a b c d).depth = 1 + max (max a.depth b.depth) (max c.depth d.depth) /\ (fourX n a b c d).parts = 1 + (a.parts + b.parts + c.parts + d.parts) := by
 unfold fourX; rw [mk_depth, mk_parts]; refine ⟨?_, ?_⟩ <;> simp [maxN, sumN] <;> omega
theorem noT_e : noT = ByteArray.empty := rfl
theorem own_leaf {k n : Int} {s : ByteArray} (h : (k = 1 /\ s = noT /\ 0 <= n /\ n <= 1000000000000) \/ ((k = 2 \/ k = 3) /\ n = 0 /\ NameP s)) : (leafX k n s).err = 0 := by
 unfold leafX;rw [mk_err];have h0 : ownE k n s 0 = 0 := by
  unfold ownE
  rcases h with ⟨rfl, rfl, h1, h2⟩ | ⟨rfl | rfl, rfl, hn⟩
  ·simp [kidsOf, namedB, leastOf, mostOf, noT_e]; omega
  ·simp [kidsOf, namedB, leastOf, mostOf, hn]
  ·simp [kidsOf, namedB, leastOf, mostOf, hn]
 rw [if_pos h0]; rfl
theorem own_one {k n : Int} {s : ByteArray} {e : Ex} (he : e.err = 0) (h : (k = 4 /\ s = noT /\ 0 <= n /\ n <= 1000000) \/ (k = 5 /\ n = 0 /\ NameP s) \/ (k = 6 /\ s = noT /\ n = 0) \/ ((k = 9 \/ k = 10) /\ s = noT /\ 1 <= n /\ n <= 1000000)) : (oneX k n s e).err = 0 := by
 unfold oneX;rw [mk_err];have h0 : ownE k n s 1 = 0 := by
  unfold ownE
  rcases h with ⟨rfl, rfl, h1, h2⟩ | ⟨rfl, rfl, hn⟩ | ⟨rfl, rfl, rfl⟩ | ⟨rfl | rfl, rfl, h1, h2⟩
  ·simp [kidsOf, namedB, leastOf, mostOf, noT_e]; omega
  ·simp [kidsOf, namedB, leastOf, mostOf, hn]
  ·simp [kidsOf, namedB, leastOf, mostOf, noT_e]
  ·simp [kidsOf, namedB, leastOf, mostOf, noT_e]; omega
  ·simp [kidsOf, namedB, leastOf, mostOf, noT_e]; omega
 rw [if_pos h0]; simp [firstE, he]
theorem own_two {k : Int} {e f : Ex} (he : e.err = 0) (hf : f.err = 0) (h : k = 7 \/ k = 8 \/ k = 11 \/ k = 12) : (twoX k e f).err = 0 := by
 unfold twoX;rw [mk_err];have h0 : ownE k 0 noT 2 = 0 := by
  unfold ownE
  rcases h with rfl | rfl | rfl | rfl <;> simp [kidsOf, namedB, leastOf, mostOf, noT_e]
 rw [if_pos h0]; simp [firstE, he, hf]
theorem own_four {n : Int} {a b c d : Ex} (ha : a.err = 0) (hb : b.err = 0) (hc : c.err = 0) (hd : d.err = 0) (h : 1 <= n /\ n <= 3) : (fourX n a b c d).err = 0 := by
 unfold fourX;rw [mk_err];have h0 : ownE 13 n noT 4 = 0 := by
  unfold ownE;simp [kidsOf, namedB, leastOf, mostOf, noT_e]; omega
 rw [if_pos h0]; simp [firstE, ha, hb, hc, hd]
theorem tstT_bd {T : List Tk} {k : Nat} {t : Int} (h : tstT T k = some t) : 1 <= t /\ t <= 3 /\ kdT T k = 3 := by
 unfold tstT at h
 (repeat' split at h) <;> first | (injection h with h; subst h; refine ⟨by omega, by omega, by assumption⟩) | cases h
theorem facT_bd {T : List Tk} {k : Nat} {t : Int} (h : facT T k = some t) : 1 <= t /\ t <= 1000000 /\ kdT T k = 2 := by
 unfold facT at h
 split at h
 ·split at h
  ·cases h
  ·split at h
   ·cases h
   ·injection h with h
    refine ⟨by omega, by omega, by assumption⟩
 ·cases h
theorem namT_bd {T : List Tk} {k : Nat} {s : ByteArray} (hT : TokOk T) (hk : k < T.length) (h : namT T k = some s) : kdT T k = 1 /\ NameP s := by
 unfold namT at h
 split at h
 ·rename_i h1
  injection h with h
  subst h;exact ⟨h1, hT.nam k hk h1⟩
 ·cases h
def baseD : Lv -> Nat
 | .sl e => e.depth
 | .pl e => e.depth
 | _ => 0
def baseP : Lv -> Nat
 | .sl e => e.parts
 | .pl e => e.parts
 | _ => 0
def baseR : Lv -> Int
 | .sl e => e.err
 | .pl e => e.err
 | _ => 0
def lowL : Lv -> Nat
 | .sl _ => 0
 | .pl _ => 0
 | _ => 1
structure Prsd (T : List Tk) (lv : Lv) (k : Nat) (x : Ex) (k' : Nat) : Prop where
 lt : k' < T.length
 err : x.err = 0
 low : k + lowL lv <= k'
 deep : x.depth <= baseD lv + (k' - k)
 parts : x.parts <= baseP lv + (k' - k)
theorem prs_ok {T : List Tk} (hT : TokOk T) : ∀ (f : Nat) (lv : Lv) (k : Nat) (x : Ex) (k' : Nat), baseR lv = 0 -> k < T.length -> prs T f lv k = some (x, k') -> Prsd T lv k x k' := by
 intro f
 induction f with
 | zero => intro lv k x k' _ _ h; cases h
 | succ f ih =>
   intro lv k x k' hE hk h
   cases lv with
   | ex =>
     simp only [prs] at h
     by_cases c : isT T k [105, 102] = true
     ·rw [if_pos c] at h;have hk1 := hT.text hk c (by simp);obtain ⟨⟨a, k1⟩, h1, h⟩ := Option.bind_eq_some_iff.1 h;have i1 := ih .su _ _ _ rfl hk1 h1;obtain ⟨t, h2, h⟩ := Option.bind_eq_some_iff.1 h;have t2 := tstT_bd h2;have hk2 := hT.kind i1.lt t2.2.2 (by omega);obtain ⟨⟨b, k2⟩, h3, h⟩ := Option.bind_eq_some_iff.1 h;have i2 := ih .su _ _ _ rfl hk2 h3
      dsimp only at h
      split at h
      ·rename_i c2
       have hk3 := hT.text i2.lt c2 (by simp);obtain ⟨⟨y, k3⟩, h4, h⟩ := Option.bind_eq_some_iff.1 h;have i3 := ih .ex _ _ _ rfl hk3 h4
       dsimp only at h
       split at h
       ·rename_i c3
        have hk4 := hT.text i3.lt c3 (by simp);obtain ⟨⟨z, k4⟩, h5, h⟩ := Option.bind_eq_some_iff.1 h;have i4 := ih .ex _ _ _ rfl hk4 h5;injection h with h
        injection h with e1 e2
        subst e1 e2;have l1 := i1.low; have l2 := i2.low; have l3 := i3.low; have l4 := i4.low;have d1 := i1.deep; have d2 := i2.deep; have d3 := i3.deep; have d4 := i4.deep;have p1 := i1.parts; have p2 := i2.parts; have p3 := i3.parts; have p4 := i4.parts;have hD := four_depth t a b y z;refine ⟨i4.lt, own_four i1.err i2.err i3.err i4.err ⟨t2.1, t2.2.1⟩, ?_, ?_, ?_⟩ <;> simp only [lowL, baseD, baseP] at * <;> omega
       ·cases h
      ·cases h
     ·rw [if_neg c] at h;have i1 := ih .su _ _ _ rfl hk h;exact ⟨i1.lt, i1.err, i1.low, i1.deep, i1.parts⟩
   | su =>
     simp only [prs] at h;obtain ⟨⟨a, k1⟩, h1, h⟩ := Option.bind_eq_some_iff.1 h;have i1 := ih .pr _ _ _ rfl hk h1;have i2 := ih (.sl a) _ _ _ i1.err i1.lt h;have l1 := i1.low; have l2 := i2.low;have d1 := i1.deep; have d2 := i2.deep;have p1 := i1.parts; have p2 := i2.parts;refine ⟨i2.lt, i2.err, ?_, ?_, ?_⟩ <;> simp only [lowL, baseD, baseP] at * <;> omega
   | pr =>
     simp only [prs] at h;obtain ⟨⟨a, k1⟩, h1, h⟩ := Option.bind_eq_some_iff.1 h;have i1 := ih .pa _ _ _ rfl hk h1;have i2 := ih (.pl a) _ _ _ i1.err i1.lt h;have l1 := i1.low; have l2 := i2.low;have d1 := i1.deep; have d2 := i2.deep;have p1 := i1.parts; have p2 := i2.parts;refine ⟨i2.lt, i2.err, ?_, ?_, ?_⟩ <;> simp only [lowL, baseD, baseP] at * <;> omega
   | sl e =>
     simp only [prs] at h
     split at h
     ·rename_i c
      have hk1 := hT.text hk c (by simp);obtain ⟨⟨a, k1⟩, h1, h⟩ := Option.bind_eq_some_iff.1 h;have i1 := ih .pr _ _ _ rfl hk1 h1;have i2 := ih (.sl (twoX 7 e a)) _ _ _ (own_two hE i1.err (by omega)) i1.lt h;have l1 := i1.low; have l2 := i2.low;have d1 := i1.deep; have d2 := i2.deep;have p1 := i1.parts; have p2 := i2.parts;have hD := two_depth 7 e a;refine ⟨i2.lt, i2.err, ?_, ?_, ?_⟩ <;> simp only [lowL, baseD, baseP] at * <;> omega
     ·split at h
      ·rename_i c
       have hk1 := hT.text hk c (by simp);obtain ⟨⟨a, k1⟩, h1, h⟩ := Option.bind_eq_some_iff.1 h;have i1 := ih .pr _ _ _ rfl hk1 h1;have i2 := ih (.sl (twoX 8 e a)) _ _ _ (own_two hE i1.err (by omega)) i1.lt h;have l1 := i1.low; have l2 := i2.low;have d1 := i1.deep; have d2 := i2.deep;have p1 := i1.parts; have p2 := i2.parts;have hD := two_depth 8 e a;refine ⟨i2.lt, i2.err, ?_, ?_, ?_⟩ <;> simp only [lowL, baseD, baseP] at * <;> omega
      ·injection h with h
       injection h with e1 e2
       subst e1 e2;refine ⟨hk, hE, ?_, ?_, ?_⟩ <;> simp only [lowL, baseD, baseP] <;> omega
   | pl e =>
     simp only [prs] at h
     split at h
     ·rename_i c
      have hk1 := hT.text hk c (by simp);obtain ⟨n, h2, h⟩ := Option.bind_eq_some_iff.1 h;have t2 := facT_bd h2;have hk2 := hT.kind hk1 t2.2.2 (by omega);have i2 := ih (.pl (oneX 9 n noT e)) _ _ _ (own_one hE (.inr (.inr (.inr ⟨.inl rfl, rfl, t2.1, t2.2.1⟩)))) hk2 h;have l2 := i2.low;have d2 := i2.deep;have p2 := i2.parts;have hD := one_depth 9 n noT e;refine ⟨i2.lt, i2.err, ?_, ?_, ?_⟩ <;> simp only [lowL, baseD, baseP] at * <;> omega
     ·split at h
      ·rename_i c
       have hk1 := hT.text hk c (by simp);obtain ⟨n, h2, h⟩ := Option.bind_eq_some_iff.1 h;have t2 := facT_bd h2;have hk2 := hT.kind hk1 t2.2.2 (by omega);have i2 := ih (.pl (oneX 10 n noT e)) _ _ _ (own_one hE (.inr (.inr (.inr ⟨.inr rfl, rfl, t2.1, t2.2.1⟩)))) hk2 h;have l2 := i2.low;have d2 := i2.deep;have p2 := i2.parts;have hD := one_depth 10 n noT e;refine ⟨i2.lt, i2.err, ?_, ?_, ?_⟩ <;> simp only [lowL, baseD, baseP] at * <;> omega
      ·injection h with h
       injection h with e1 e2
       subst e1 e2;refine ⟨hk, hE, ?_, ?_, ?_⟩ <;> simp only [lowL, baseD, baseP] <;> omega
   | pa =>
     rw [prs] at h;have hnum := hT.num k hk
     by_cases c : kdT T k = 2
     ·rw [if_pos c] at h;have hk1 := hT.kind hk c (by omega)
      split at h
      ·rename_i c1
       have hk2 := hT.text hk1 c1 (by simp)
       split at h
       ·cases h
       ·rename_i c2
        split at h
        ·rename_i c3
         have hk3 := hT.text hk2 c3 (by simp);obtain ⟨⟨a, k1⟩, h1, h⟩ := Option.bind_eq_some_iff.1 h;have i1 := ih .pa _ _ _ rfl hk3 h1;injection h with h
         injection h with e1 e2
         subst e1 e2;have l1 := i1.low;have d1 := i1.deep;have p1 := i1.parts;have hD := one_depth 4 (nmT T k) noT a;refine ⟨i1.lt, own_one i1.err (.inl ⟨rfl, rfl, hnum.1, by omega⟩), ?_, ?_, ?_⟩ <;> simp only [lowL, baseD, baseP] at * <;> omega
        ·cases h
      ·injection h with h
       injection h with e1 e2
       subst e1 e2;have hD := leaf_depth 1 (nmT T k) noT;refine ⟨hk1, own_leaf (.inl ⟨rfl, rfl, hnum.1, hnum.2⟩), ?_, ?_, ?_⟩ <;> simp only [lowL, baseD, baseP] <;> omega
     rw [if_neg c] at h
     by_cases c : kdT T k = 1
     ·rw [if_pos c] at h;have hk1 := hT.kind hk c (by omega);injection h with h
      injection h with e1 e2
      subst e1 e2;have hD := leaf_depth 2 0 (tkth T k).txt;refine ⟨hk1, own_leaf (.inr ⟨.inl rfl, rfl, hT.nam k hk c⟩), ?_, ?_, ?_⟩ <;> simp only [lowL, baseD, baseP] <;> omega
     rw [if_neg c] at h
     by_cases c : isT T k [121, 101, 97, 114] = true
     ·rw [if_pos c] at h;have hk1 := hT.text hk c (by simp);obtain ⟨s, h2, h⟩ := Option.bind_eq_some_iff.1 h;have t2 := namT_bd hT hk1 h2;have hk2 := hT.kind hk1 t2.1 (by omega);injection h with h
      injection h with e1 e2
      subst e1 e2;have hD := leaf_depth 3 0 s;refine ⟨hk2, own_leaf (.inr ⟨.inr rfl, rfl, t2.2⟩), ?_, ?_, ?_⟩ <;> simp only [lowL, baseD, baseP] <;> omega
     rw [if_neg c] at h
     by_cases c : isT T k [116, 97, 98, 108, 101] = true
     ·rw [if_pos c] at h;have hk1 := hT.text hk c (by simp);obtain ⟨s, h2, h⟩ := Option.bind_eq_some_iff.1 h;have t2 := namT_bd hT hk1 h2;have hk2 := hT.kind hk1 t2.1 (by omega)
      split at h
      ·rename_i c3
       have hk3 := hT.text hk2 c3 (by simp);obtain ⟨⟨a, k1⟩, h1, h⟩ := Option.bind_eq_some_iff.1 h;have i1 := ih .pa _ _ _ rfl hk3 h1;injection h with h
       injection h with e1 e2
       subst e1 e2;have l1 := i1.low;have d1 := i1.deep;have p1 := i1.parts;have hD := one_depth 5 0 s a;refine ⟨i1.lt, own_one i1.err (.inr (.inl ⟨rfl, rfl, t2.2⟩)), ?_, ?_, ?_⟩ <;> simp only [lowL, baseD, baseP] at * <;> omega
      ·cases h
     rw [if_neg c] at h
     by_cases c : isT T k [45] = true
     ·rw [if_pos c] at h;have hk1 := hT.text hk c (by simp);obtain ⟨⟨a, k1⟩, h1, h⟩ := Option.bind_eq_some_iff.1 h;have i1 := ih .pa _ _ _ rfl hk1 h1;injection h with h
      injection h with e1 e2
      subst e1 e2;have l1 := i1.low;have d1 := i1.deep;have p1 := i1.parts;have hD := one_depth 6 0 noT a;refine ⟨i1.lt, own_one i1.err (.inr (.inr (.inl ⟨rfl, rfl, rfl⟩))), ?_, ?_, ?_⟩ <;> simp only [lowL, baseD, baseP] at * <;> omega
     rw [if_neg c] at h
     by_cases c : isT T k [109, 105, 110] = true
     ·rw [if_pos c] at h;have hk1 := hT.text hk c (by simp)
      split at h
      ·rename_i c1
       have hk2 := hT.text hk1 c1 (by simp);obtain ⟨⟨a, k1⟩, h1, h⟩ := Option.bind_eq_some_iff.1 h;have i1 := ih .ex _ _ _ rfl hk2 h1
       dsimp only at h
       split at h
       ·rename_i c2
        have hk3 := hT.text i1.lt c2 (by simp);obtain ⟨⟨b, k2⟩, h2, h⟩ := Option.bind_eq_some_iff.1 h;have i2 := ih .ex _ _ _ rfl hk3 h2
        dsimp only at h
        split at h
        ·rename_i c3
         have hk4 := hT.text i2.lt c3 (by simp);injection h with h
         injection h with e1 e2
         subst e1 e2;have l1 := i1.low; have l2 := i2.low;have d1 := i1.deep; have d2 := i2.deep;have p1 := i1.parts; have p2 := i2.parts;have hD := two_depth 11 a b;refine ⟨hk4, own_two i1.err i2.err (by omega), ?_, ?_, ?_⟩ <;> simp only [lowL, baseD, baseP] at * <;> omega
        ·cases h
       ·cases h
      ·cases h
     rw [if_neg c] at h
     by_cases c : isT T k [109, 97, 120] = true
     ·rw [if_pos c] at h;have hk1 := hT.text hk c (by simp)
      split at h
      ·rename_i c1
       have hk2 := hT.text hk1 c1 (by simp);obtain ⟨⟨a, k1⟩, h1, h⟩ := Option.bind_eq_some_iff.1 h;have i1 := ih .ex _ _ _ rfl hk2 h1
       dsimp only at h
       split at h
       ·rename_i c2
        have hk3 := hT.text i1.lt c2 (by simp);obtain ⟨⟨b, k2⟩, h2, h⟩ := Option.bind_eq_some_iff.1 h;have i2 := ih .ex _ _ _ rfl hk3 h2
        dsimp only at h
        split at h
        ·rename_i c3
         have hk4 := hT.text i2.lt c3 (by simp);injection h with h
         injection h with e1 e2
         subst e1 e2;have l1 := i1.low; have l2 := i2.low;have d1 := i1.deep; have d2 := i2.deep;have p1 := i1.parts; have p2 := i2.parts;have hD := two_depth 12 a b;refine ⟨hk4, own_two i1.err i2.err (by omega), ?_, ?_, ?_⟩ <;> simp only [lowL, baseD, baseP] at * <;> omega
        ·cases h
       ·cases h
      ·cases h
     rw [if_neg c] at h
     by_cases c : isT T k [40] = true
     ·rw [if_pos c] at h;have hk1 := hT.text hk c (by simp);obtain ⟨⟨a, k1⟩, h1, h⟩ := Option.bind_eq_some_iff.1 h;have i1 := ih .ex _ _ _ rfl hk1 h1
      dsimp only at h
      split at h
      ·rename_i c2
       have hk2 := hT.text i1.lt c2 (by simp);injection h with h
       injection h with e1 e2
       subst e1 e2;have l1 := i1.low;have d1 := i1.deep;have p1 := i1.parts;refine ⟨hk2, i1.err, ?_, ?_, ?_⟩ <;> simp only [lowL, baseD, baseP] at * <;> omega
      ·cases h
     ·rw [if_neg c] at h
      cases h
end Go.Proofs.YtmlpedgcpffpnaaGreatDoor
