/-
  Promise P2, of rules: the reference's reader: the walk of expr at an 'if'.
-/
import Derived.Test.YtmlpedgcpffpnaaGreatDoorKZ0
import Derived.Test.YtmlpedgcpffpnaaGreatDoorKZ1
import Derived.Test.YtmlpedgcpffpnaaGreatDoorKR6
import Derived.Deep.CutRange
set_option linter.unusedSimpArgs false
set_option maxRecDepth 100000
set_option maxHeartbeats 8000000
namespace Go.Proofs.YtmlpedgcpffpnaaGreatDoor
open Go.RowKit
theorem strs_at (V : World) (a b c d : ByteArray) (T : TypeId) : (V.alloc (.cells #[.string a, .string b, .string c, .string d] T)).cell? ⟨V.heap.size, 0, none⟩ = some (.string a) /\ (V.alloc (.cells #[.string a, .string b, .string c, .string d] T)).cell? ⟨V.heap.size, 1, none⟩ = some (.string b) /\ (V.alloc (.cells #[.string a, .string b, .string c, .string d] T)).cell? ⟨V.heap.size, 2, none⟩ = some (.string c) /\ (V.alloc (.cells #[.string a, .string b, .string c, .string d] T)).cell? ⟨V.heap.size, 3, none⟩ = some (.string d) := by
 refine ⟨?_, ?_, ?_, ?_⟩ <;> simp
def wyT (t q : Int) : Int := if t < q then t else 0
theorem wyT_hit {t q r : Int} (h : t = q) (hr : r = q + 1) : wyT t r = q := by unfold wyT; rw [if_pos (by omega)]; exact h
theorem wyT_miss {t q r : Int} (h : ¬ t = q) (hr : r = q + 1) : wyT t r = wyT t q := by
 unfold wyT
 by_cases h9 : t < q
 ·rw [if_pos h9, if_pos (by omega)]
 ·rw [if_neg h9, if_neg (by omega)]
theorem wyT_1 {t : Int} (h : 1 <= t) : wyT t 1 = 0 := by unfold wyT; rw [if_neg (by omega)]
theorem wyT_4 {t : Int} (h : t <= 3) : wyT t 4 = t := by unfold wyT; rw [if_pos (by omega)]
theorem ExB.at4 {w X : World} {g n c : Nat} {z : Int} {rb : Nat} {y : Ex} {ay : Option Addr} {cy kj : Nat} {M : List ExC} {v : Value} (h : ExB w X g n c z rb y ay cy kj M v) (p : Nat) : ExB w (X.setCell ⟨rb, 4, none⟩ (.int .i64 (p : Int))) g n c z rb y ay cy p M v := by
 have hs : w.heap.size + 1 < rb := h.gt;refine ⟨⟨h.su.bel.setCell (by show w.heap.size <= rb; omega) _, h.su.t.far (by omega) _, h.su.o.far (by omega) _, by rw [World.size_setCell]; exact h.su.lt⟩, ?_, ?_, h.gr.put (by show rb < rb + 1; omega) _, fun j hj => ?_, by rw [World.size_setCell]; exact h.lt, h.gt⟩
 ·have := h.bx.set 4 (.int .i64 (p : Int));exact this
 ·exact h.ks.put (c := rb) (fun b hb => hb.2.1) 4 [.int .i64 (p : Int)]
 ·exact (h.kd j hj).put (c := rb) (fun b hb => hb.2.1) 4 [.int .i64 (p : Int)]
def IfAt (w wr : World) (g n c : Nat) (z : Int) (rb : Nat) (v : Value) (x : Ex) (kj : Nat) (l : List Ex) : Prop := ∃ (ay : Option Addr) (cy : Nat) (M : List ExC), M.map ExC.x = l /\ ExB w wr g n c z rb x ay cy kj M v
theorem expr_if {s0 : ByteArray} {L T : List Tk} {g n c : Nat} {z : Int} {f : Nat} (hRK : RkL s0 L T) (hn : L.length = n) (hS : RdF 106 T L g n c z .su f) (hE : RdF 58 T L g n c z .ex f) (k : Nat) (x : Ex) (k' : Nat) (h : prs T (f + 1) .ex k = some (x, k')) (hk : k < T.length) (hi : isT T k [105, 102] = true) : RdAt 58 L g n c z k x k' := by
 intro w hT;rw [prs_ex, if_pos hi] at h;obtain ⟨⟨xa, ka⟩, h1, h⟩ := Option.bind_eq_some_iff.1 h;obtain ⟨t, h2, h⟩ := Option.bind_eq_some_iff.1 h;obtain ⟨⟨xb, kb⟩, h3, h⟩ := Option.bind_eq_some_iff.1 h
 dsimp only at h2 h3 h
 split at h
 ·rename_i d2
  obtain ⟨⟨xc, kc⟩, h4, h⟩ := Option.bind_eq_some_iff.1 h
  dsimp only at h
  split at h
  ·rename_i d3
   obtain ⟨⟨xd, kd⟩, h5, h⟩ := Option.bind_eq_some_iff.1 h;injection h with h
   injection h with e1 e2
   subst e1 e2;have hk1 := hRK.ok.text hk hi (by simp);have hpa := prs_ok hRK.ok _ _ _ _ _ rfl hk1 h1;have ht := tstT_bd h2;have hk2 := hRK.ok.kind hpa.lt ht.2.2 (by omega);have hpb := prs_ok hRK.ok _ _ _ _ _ rfl hk2 h3;have hk3 := hRK.ok.text hpb.lt d2 (by simp);have hpc := prs_ok hRK.ok _ _ _ _ _ rfl hk3 h4;have hk4 := hRK.ok.text hpc.lt d3 (by simp);have hlong := hRK.ok.long;have i0 := isR_yes hRK hk hi (by decide +kernel) (by decide);have i2 := isR_yes hRK hpb.lt d2 (by decide +kernel) (by decide);have i3 := isR_yes hRK hpc.lt d3 (by decide +kernel) (by decide);have HTS := Hd (tst_three hRK hpa.lt h2);have HTB := Hd ht;have HOA := Hd (hS (k + 1) xa ka h1 hk1);have HOB := Hd (hS (ka + 1) xb kb h3 hk2);have HOC := Hd (hE (kb + 1) xc kc h4 hk3);have HOD := Hd (hE (kc + 1) xd kd h5 hk4);have HM0 := Hd (fun W a5 c5 hW => must_ref L g n c z (leafX 0 0 noT) a5 c5 k ⟨#[105, 102]⟩ W hW hn (by omega) i0);have HM2 := Hd (fun W a5 c5 hW => must_ref L g n c z xb a5 c5 kb ⟨#[116, 104, 101, 110]⟩ W hW hn (by have := hpb.lt; omega) i2);have HM3 := Hd (fun W a5 c5 hW => must_ref L g n c z xc a5 c5 kc ⟨#[101, 108, 115, 101]⟩ W hW hn (by have := hpc.lt; omega) i3);have HN := Hd hn;have HT := Hd hT;have HKA : Hid (ka <= 10000) := by have := hpa.lt; unfold Hid; omega
   obtain ⟨p1, hp1⟩ : ∃ p, p = k + 1 := ⟨_, rfl⟩;obtain ⟨p2, hp2⟩ : ∃ p, p = ka + 1 := ⟨_, rfl⟩;obtain ⟨p3, hp3⟩ : ∃ p, p = kb + 1 := ⟨_, rfl⟩;obtain ⟨p4, hp4⟩ : ∃ p, p = kc + 1 := ⟨_, rfl⟩;rw [<- hp1] at HOA HM0;rw [<- hp2] at HOB;rw [<- hp3] at HOC HM2;rw [<- hp4] at HOD HM3;have wk2 : IntKind.i64.wrap ((ka : Int) + 1) = (p2 : Int) := by have := hpa.lt; rw [IntWalk.i64_in _ (by omega)]; omega
   have HP0 := Hd (SuB.made w g n c z 118 122);clear h h1 h2 h3 h4 h5 hRK hn hS hE hT hk hi hk1 hpa ht hk2 hpb hk3 hpc hk4 hlong i2 i3 d2 d3 hp1 hp2 hp3 hp4;unfold tksV
   go_enter Tryz.func58, Tryz.ntmps58
   go_wp2_with fail
   refine (is_ref L g n c z k ⟨#[105, 102]⟩ _ (HT.out.below HP0.out.bel HT.out.1) HN.out).mono ?_;rintro e w4 ⟨rfl, hb⟩;rw [i0];have HP4 := Hd (HP0.out.below hb);clear hb HP0 i0
   have HX0 : Hid (ExB w (w4.alloc (.cells #[.int .i64 0, .int .i64 0, .string ⟨#[]⟩, .slice none 0 0, .int .i64 k, .int .i64 0, .int .i64 0] 122)) g n c z w4.heap.size (leafX 0 0 noT) none 0 k [] (.slice none 0 0)) :=
    Hd ⟨HP4.out.below (kbelow_box _ _), Bxs.made w4 [.int .i64 0, .int .i64 0, .string ⟨#[]⟩, .slice none 0 0, .int .i64 k, .int .i64 0, .int .i64 0] _, KidsP.leaf _ _ _ _ _ _ (by unfold noT maxLen; exact Nat.zero_le _), GrowE.nil _ _, fun j hj => absurd hj (Nat.not_lt_zero _), by simp, HP4.out.lt⟩
   obtain ⟨⟨t0, t1⟩, ft0, ft1⟩ := HP4.out.t.pair;go_wp2_with fail
   generalize (w4.alloc (.cells #[.int .i64 0, .int .i64 0, .string ⟨#[]⟩, .slice none 0 0, .int .i64 k, .int .i64 0, .int .i64 0] 122)) = v4 at HX0 ⊢;clear t0 t1 ft0 ft1 HP4;generalize w4.heap.size = rb at HX0 ⊢
   go_loopw [5, 6, 8] (fun v wv iv wr =>
    (iv = .int .i64 0 /\ wv = .int .i64 0 /\ IfAt w wr g n c z rb v (leafX 0 0 noT) k []) ∨
    (iv = .int .i64 1 /\ wv = .int .i64 0 /\ IfAt w wr g n c z rb v xa ka [xa]) ∨
    (iv = .int .i64 2 /\ wv = .int .i64 t /\ IfAt w wr g n c z rb v xb kb [xa, xb]) ∨
    (iv = .int .i64 3 /\ wv = .int .i64 t /\ IfAt w wr g n c z rb v xc kc [xa, xb, xc]) ∨
    (iv = .int .i64 4 /\ wv = .int .i64 t /\ IfAt w wr g n c z rb v xd kd [xa, xb, xc, xd])) (fun _ _ iv _ => 4 - (intOf iv).toNat)
   case atStart => exact .inl ⟨rfl, rfl, none, 0, [], rfl, HX0.out⟩
   case round =>
    clear HX0
    rcases hrel with ⟨rfl, rfl, ay, cy, M, hM, hX⟩ | ⟨rfl, rfl, ay, cy, M, hM, hX⟩ | ⟨rfl, rfl, ay, cy, M, hM, hX⟩ | ⟨rfl, rfl, ay, cy, M, hM, hX⟩ | ⟨rfl, rfl, ay, cy, M, hM, hX⟩
    ·have HX := Hd hX;have HML := Hd hM;have HM := HM0;have HOP := HOA;clear hX hM;obtain ⟨⟨t0, t1⟩, ft0, ft1⟩ := HX.out.su.t.pair;obtain ⟨⟨r0, r1, r2, r3, r4, r5, r6⟩, fr0, fr1, fr2, fr3, fr4, fr5, fr6⟩ := HX.out.bx.seven;have hrl := HX.out.lt;go_wp2_with fail
     go_cut [] from 24 to 30 (fun wx => ∃ (a5 : Option Addr) (c5 : Nat), ExB w wx g n c z rb (leafX 0 0 noT) a5 c5 p1 M u5)
     case first =>
      have HD0 : Hid (Below wr.heap.size wr wr.drew) := Hd (kbelow_dN (Below.refl _ _) 1);refine wp_region_held_drew (S := fun w' => w'.cell? ⟨w.heap.size, 0, none⟩ = some (.slice (some ⟨g, 0, none⟩) n c) /\ w'.cell? ⟨w.heap.size, 1, none⟩ = some (.int .i64 z)) (by kernel_rfl) ⟨t0, t1⟩ (fun hHeld => ?_);generalize wr.drew = V0 at HD0 hHeld ⊢;replace HX := Hd (HX.out.below HD0.out);clear t0 t1 ft0 ft1 r0 r1 r2 r3 r4 r5 r6 fr0 fr1 fr2 fr3 fr4 fr5 fr6 hrl;obtain ⟨⟨t0, t1⟩, ft0, ft1⟩ := HX.out.su.t.pair;obtain ⟨⟨r0, r1, r2, r3, r4, r5, r6⟩, fr0, fr1, fr2, fr3, fr4, fr5, fr6⟩ := HX.out.bx.seven;have hrl := HX.out.lt;clear HD0;refine tkH 0 (.agg #[.slice (some ⟨g, 0, none⟩) n c, .int .i64 z]) rfl (fun w' hSw => ?_) ?_
      ·((try dsimp only at hSw); go_simp; try with_reducible rfl)
      try simp only [Act.put, layS]
      refine tkH 3 (.int .i64 0) rfl (fun w' hSw => ?_) ?_
      ·((try dsimp only at hSw); go_simp; try with_reducible rfl)
      try simp only [Act.put, layS]
      refine rd2 1 2 rfl (fun K hK => ?_) rfl (fun K hK => ?_)
      ·go_simp;refine hK.out _ _ ⟨t0, t1⟩ (fun hHeld => ?_);clear hK K
       try simp only [Act.put, layS]
       refine rd1 2 rfl (fun K hK => ?_);go_simp;have hbx := kbelow_box V0 (.cells #[.string ⟨#[105, 102]⟩, .string ⟨#[]⟩, .string ⟨#[116, 104, 101, 110]⟩, .string ⟨#[101, 108, 115, 101]⟩] 9);obtain ⟨s0', s1', s2', s3'⟩ := strs_at V0 ⟨#[105, 102]⟩ ⟨#[]⟩ ⟨#[116, 104, 101, 110]⟩ ⟨#[101, 108, 115, 101]⟩ 9;have hvl : V0.heap.size < (V0.alloc (.cells #[.string ⟨#[105, 102]⟩, .string ⟨#[]⟩, .string ⟨#[116, 104, 101, 110]⟩, .string ⟨#[101, 108, 115, 101]⟩] 9)).heap.size := by simp
       generalize V0.alloc (.cells #[.string ⟨#[105, 102]⟩, .string ⟨#[]⟩, .string ⟨#[116, 104, 101, 110]⟩, .string ⟨#[101, 108, 115, 101]⟩] 9) = V1 at hbx hvl s0' s1' s2' s3' ⊢;replace HX := Hd (HX.out.below hbx);clear t0 t1 ft0 ft1 r0 r1 r2 r3 r4 r5 r6 fr0 fr1 fr2 fr3 fr4 fr5 fr6 hrl;obtain ⟨⟨t0, t1⟩, ft0, ft1⟩ := HX.out.su.t.pair;obtain ⟨⟨r0, r1, r2, r3, r4, r5, r6⟩, fr0, fr1, fr2, fr3, fr4, fr5, fr6⟩ := HX.out.bx.seven;have hrl := HX.out.lt;clear hbx hvl;refine hK.out _ _ ⟨t0, t1⟩ (fun hHeld => ?_);clear hK K
       try simp only [Act.put, layS]
       refine tkH 4 (.pointer (some ⟨V0.heap.size, 0, none⟩)) rfl (fun w' hSw => ?_) ?_
       ·((try dsimp only at hSw); go_simp; try with_reducible rfl)
       try simp only [Act.put, layS]
       refine rd1 5 rfl (fun K hK => ?_);go_simp;refine hK.out _ _ ⟨t0, t1⟩ (fun hHeld => ?_);clear hK K
       try simp only [Act.put, layS]
       refine rd1 6 rfl (fun K hK => ?_);go_simp;refine (HM.out _ _ _ (HT.out.below HX.out.su.bel HT.out.1)).mono ?_;rintro e w5 ⟨rfl, hb⟩;clear hHeld;replace HX := Hd (HX.out.below hb);clear t0 t1 ft0 ft1 r0 r1 r2 r3 r4 r5 r6 fr0 fr1 fr2 fr3 fr4 fr5 fr6 hrl;obtain ⟨⟨t0, t1⟩, ft0, ft1⟩ := HX.out.su.t.pair;obtain ⟨⟨r0, r1, r2, r3, r4, r5, r6⟩, fr0, fr1, fr2, fr3, fr4, fr5, fr6⟩ := HX.out.bx.seven;have hrl := HX.out.lt;clear hb;unfold rdV
       try go_wp2_with fail
       refine hK.out _ _ ⟨t0, t1⟩ (fun hHeld => ?_);clear hK K
       try simp only [Act.put, layS]
       refine rd1 7 rfl (fun K hK => ?_);have hP := HX.out.put (y' := leafX 0 0 noT) (ay' := ay) cy p1 HX.out.ks;simp only [rdL, putL, Nat.zero_add, Nat.reduceAdd] at hP;have HPP := Hd hP;clear hP;go_simp;refine hK.out _ _ HPP.out.su.t.pair.1 (fun hHeld => ?_);clear hK K hHeld;refine wpAnyH_done (by kernel_rfl) ?_ _
       try go_wp2_with fail
       go_meet;exact ⟨_, _, HPP.out⟩
      ·go_simp;have hbx := kbelow_box V0 (.cells #[.string ⟨#[105, 102]⟩, .string ⟨#[]⟩, .string ⟨#[116, 104, 101, 110]⟩, .string ⟨#[101, 108, 115, 101]⟩] 9);obtain ⟨s0', s1', s2', s3'⟩ := strs_at V0 ⟨#[105, 102]⟩ ⟨#[]⟩ ⟨#[116, 104, 101, 110]⟩ ⟨#[101, 108, 115, 101]⟩ 9;have hvl : V0.heap.size < (V0.alloc (.cells #[.string ⟨#[105, 102]⟩, .string ⟨#[]⟩, .string ⟨#[116, 104, 101, 110]⟩, .string ⟨#[101, 108, 115, 101]⟩] 9)).heap.size := by simp
       generalize V0.alloc (.cells #[.string ⟨#[105, 102]⟩, .string ⟨#[]⟩, .string ⟨#[116, 104, 101, 110]⟩, .string ⟨#[101, 108, 115, 101]⟩] 9) = V1 at hbx hvl s0' s1' s2' s3' ⊢;replace HX := Hd (HX.out.below hbx);clear t0 t1 ft0 ft1 r0 r1 r2 r3 r4 r5 r6 fr0 fr1 fr2 fr3 fr4 fr5 fr6 hrl;obtain ⟨⟨t0, t1⟩, ft0, ft1⟩ := HX.out.su.t.pair;obtain ⟨⟨r0, r1, r2, r3, r4, r5, r6⟩, fr0, fr1, fr2, fr3, fr4, fr5, fr6⟩ := HX.out.bx.seven;have hrl := HX.out.lt;clear hbx hvl;refine hK.out _ _ ⟨t0, t1⟩ (fun hHeld => ?_);clear hK K
       try simp only [Act.put, layS]
       refine tkH 4 (.pointer (some ⟨V0.heap.size, 0, none⟩)) rfl (fun w' hSw => ?_) ?_
       ·((try dsimp only at hSw); go_simp; try with_reducible rfl)
       try simp only [Act.put, layS]
       refine rd2 1 5 rfl (fun K hK => ?_) rfl (fun K hK => ?_)
       ·go_simp;refine hK.out _ _ ⟨t0, t1⟩ (fun hHeld => ?_);clear hK K
        try simp only [Act.put, layS]
        refine rd1 5 rfl (fun K hK => ?_);go_simp;refine hK.out _ _ ⟨t0, t1⟩ (fun hHeld => ?_);clear hK K
        try simp only [Act.put, layS]
        refine rd1 6 rfl (fun K hK => ?_);go_simp;refine (HM.out _ _ _ (HT.out.below HX.out.su.bel HT.out.1)).mono ?_;rintro e w5 ⟨rfl, hb⟩;clear hHeld;replace HX := Hd (HX.out.below hb);clear t0 t1 ft0 ft1 r0 r1 r2 r3 r4 r5 r6 fr0 fr1 fr2 fr3 fr4 fr5 fr6 hrl;obtain ⟨⟨t0, t1⟩, ft0, ft1⟩ := HX.out.su.t.pair;obtain ⟨⟨r0, r1, r2, r3, r4, r5, r6⟩, fr0, fr1, fr2, fr3, fr4, fr5, fr6⟩ := HX.out.bx.seven;have hrl := HX.out.lt;clear hb;unfold rdV
        try go_wp2_with fail
        refine hK.out _ _ ⟨t0, t1⟩ (fun hHeld => ?_);clear hK K
        try simp only [Act.put, layS]
        refine rd1 7 rfl (fun K hK => ?_);have hP := HX.out.put (y' := leafX 0 0 noT) (ay' := ay) cy p1 HX.out.ks;simp only [rdL, putL, Nat.zero_add, Nat.reduceAdd] at hP;have HPP := Hd hP;clear hP;go_simp;refine hK.out _ _ HPP.out.su.t.pair.1 (fun hHeld => ?_);clear hK K hHeld;refine wpAnyH_done (by kernel_rfl) ?_ _
        try go_wp2_with fail
        go_meet;exact ⟨_, _, HPP.out⟩
       ·go_simp;refine hK.out _ _ ⟨t0, t1⟩ (fun hHeld => ?_);clear hK K
        try simp only [Act.put, layS]
        refine rd1 1 rfl (fun K hK => ?_);go_simp;refine hK.out _ _ ⟨t0, t1⟩ (fun hHeld => ?_);clear hK K
        try simp only [Act.put, layS]
        refine rd1 6 rfl (fun K hK => ?_);go_simp;refine (HM.out _ _ _ (HT.out.below HX.out.su.bel HT.out.1)).mono ?_;rintro e w5 ⟨rfl, hb⟩;clear hHeld;replace HX := Hd (HX.out.below hb);clear t0 t1 ft0 ft1 r0 r1 r2 r3 r4 r5 r6 fr0 fr1 fr2 fr3 fr4 fr5 fr6 hrl;obtain ⟨⟨t0, t1⟩, ft0, ft1⟩ := HX.out.su.t.pair;obtain ⟨⟨r0, r1, r2, r3, r4, r5, r6⟩, fr0, fr1, fr2, fr3, fr4, fr5, fr6⟩ := HX.out.bx.seven;have hrl := HX.out.lt;clear hb;unfold rdV
        try go_wp2_with fail
        refine hK.out _ _ ⟨t0, t1⟩ (fun hHeld => ?_);clear hK K
        try simp only [Act.put, layS]
        refine rd1 7 rfl (fun K hK => ?_);have hP := HX.out.put (y' := leafX 0 0 noT) (ay' := ay) cy p1 HX.out.ks;simp only [rdL, putL, Nat.zero_add, Nat.reduceAdd] at hP;have HPP := Hd hP;clear hP;go_simp;refine hK.out _ _ HPP.out.su.t.pair.1 (fun hHeld => ?_);clear hK K hHeld;refine wpAnyH_done (by kernel_rfl) ?_ _
        try go_wp2_with fail
        go_meet;exact ⟨_, _, HPP.out⟩
     case rest =>
      clear t0 t1 ft0 ft1 r0 r1 r2 r3 r4 r5 r6 fr0 fr1 fr2 fr3 fr4 fr5 fr6 hrl;clear HX HM;obtain ⟨ay, cy, hX⟩ := hcut;have HX := Hd hX;clear hX;obtain ⟨⟨t0, t1⟩, ft0, ft1⟩ := HX.out.su.t.pair;obtain ⟨⟨r0, r1, r2, r3, r4, r5, r6⟩, fr0, fr1, fr2, fr3, fr4, fr5, fr6⟩ := HX.out.bx.seven;have hrl := HX.out.lt;go_wp2_with fail
      refine (HOP.out _ (HT.out.below HX.out.su.bel HT.out.1)).mono ?_;rintro e w7 ⟨a7, c7, rfl, hk7, hb⟩;have hk8 := hk7.mono (Q := ExP (w.heap.size + 1) rb u5) (fun b hb _ => ⟨Nat.lt_trans HX.out.gt (Nat.lt_of_lt_of_le HX.out.lt hb), by have := HX.out.lt; omega, fun e => by have := (HX.out.gr.lt b e.symm).2; omega⟩);have hk9 := hk8;replace HX := Hd (HX.out.below hb);clear t0 t1 ft0 ft1 r0 r1 r2 r3 r4 r5 r6 fr0 fr1 fr2 fr3 fr4 fr5 fr6 hrl;obtain ⟨⟨t0, t1⟩, ft0, ft1⟩ := HX.out.su.t.pair;obtain ⟨⟨r0, r1, r2, r3, r4, r5, r6⟩, fr0, fr1, fr2, fr3, fr4, fr5, fr6⟩ := HX.out.bx.seven;have hrl := HX.out.lt;clear hb hk7 hk9;have hP := HX.out.put c7 ka hk8;simp only [rdL, putL, Nat.zero_add, Nat.reduceAdd] at hP;have HPP := Hd hP;clear hP hk8;unfold rdV;go_wp2_with (at_builtin; refine wpList_app_ex _ rfl _ _ rfl (rb + 1) u5 M rfl ?hgw w7.heap.size 1 ⟨xa, a7, c7⟩ rfl ?hcm ?hbd ?hB ?_; rotate_right; intro v9 w9 hg9 hgr9 hv9; refine Hid.out ?_)
      case hgw => exact HPP.out.gr.alloc _
      case hcm => exact Bxs.made_at _ (by simp) (exL xa a7 c7) _
      case hbd =>
       have h9 := congrArg List.length HML.out;rw [List.length_map] at h9;simp only [List.length_cons, List.length_nil] at h9;omega
      case hB => have := HX.out.lt; simp; omega
      have HX9 := Hd (HPP.out.app hg9 hgr9 hv9);clear hg9 hgr9 hv9;refine Hd ?_;clear t0 t1 ft0 ft1 r0 r1 r2 r3 r4 r5 r6 fr0 fr1 fr2 fr3 fr4 fr5 fr6 hrl;go_wp2_with fail
      go_roundw
      case rel => exact .inr (.inl ⟨by first | rfl | go_num, rfl, a7, c7, M ++ [⟨xa, a7, c7⟩], by rw [List.map_append, HML.out]; rfl, HX9.out⟩)
      case measure => first | decide | (simp [intOf] <;> omega)
    ·have HX := Hd hX;have HX1 := Hd hX;have HML := Hd hM;have HOP := HOB;clear hX hM;obtain ⟨⟨t0, t1⟩, ft0, ft1⟩ := HX.out.su.t.pair;obtain ⟨⟨r0, r1, r2, r3, r4, r5, r6⟩, fr0, fr1, fr2, fr3, fr4, fr5, fr6⟩ := HX.out.bx.seven;have hrl := HX.out.lt;go_wp2_with fail
     clear HX;clear t0 t1 ft0 ft1 r0 r1 r2 r3 r4 r5 r6 fr0 fr1 fr2 fr3 fr4 fr5 fr6 hrl
     go_loopw [6, 9] (fun wv kv wr2 => ∃ (ay : Option Addr) (cy : Nat), (kv = .int .i64 1 /\ wv = .int .i64 (wyT t 1) /\ ExB w wr2 g n c z rb xa ay cy ka M u5) \/ (kv = .int .i64 2 /\ wv = .int .i64 (wyT t 2) /\ ExB w wr2 g n c z rb xa ay cy ka M u5) \/ (kv = .int .i64 3 /\ wv = .int .i64 (wyT t 3) /\ ExB w wr2 g n c z rb xa ay cy ka M u5) \/ (kv = .int .i64 4 /\ wv = .int .i64 (wyT t 4) /\ ExB w wr2 g n c z rb xa ay cy ka M u5)) (fun _ kv _ => 4 - (intOf kv).toNat)
     case atStart => exact ⟨ay, cy, .inl ⟨rfl, by rw [wyT_1 HTB.out.1], HX1.out⟩⟩
     case round =>
      obtain ⟨ay, cy, hin | hin | hin | hin⟩ := hrel
      ·obtain ⟨rfl, rfl, hX⟩ := hin;have HX := Hd hX;clear hX;obtain ⟨⟨t0, t1⟩, ft0, ft1⟩ := HX.out.su.t.pair;obtain ⟨⟨r0, r1, r2, r3, r4, r5, r6⟩, fr0, fr1, fr2, fr3, fr4, fr5, fr6⟩ := HX.out.bx.seven;have hrl := HX.out.lt;go_wp2_with fail
       have HD0 : Hid (Below wr.heap.size wr wr.drew) := Hd (kbelow_dN (Below.refl _ _) 1);refine wp_region_held_drew (S := fun w' => w'.cell? ⟨w.heap.size, 0, none⟩ = some (.slice (some ⟨g, 0, none⟩) n c) /\ w'.cell? ⟨w.heap.size, 1, none⟩ = some (.int .i64 z) /\ w'.cell? ⟨rb, 4, none⟩ = some (.int .i64 (ka : Int))) (by kernel_rfl) ⟨t0, t1, r4⟩ (fun hHeld => ?_);generalize wr.drew = V0 at HD0 hHeld ⊢;replace HX := Hd (HX.out.below HD0.out);clear t0 t1 ft0 ft1 r0 r1 r2 r3 r4 r5 r6 fr0 fr1 fr2 fr3 fr4 fr5 fr6 hrl;obtain ⟨⟨t0, t1⟩, ft0, ft1⟩ := HX.out.su.t.pair;obtain ⟨⟨r0, r1, r2, r3, r4, r5, r6⟩, fr0, fr1, fr2, fr3, fr4, fr5, fr6⟩ := HX.out.bx.seven;have hrl := HX.out.lt;clear HD0;refine tkH 0 (.agg #[.slice (some ⟨g, 0, none⟩) n c, .int .i64 z]) rfl (fun w' hSw => ?_) ?_
       ·((try dsimp only at hSw); go_simp; try with_reducible rfl)
       try simp only [Act.put, layS]
       refine tkH 1 (.pointer (some ⟨rb, 4, none⟩)) rfl (fun w' hSw => ?_) ?_
       ·((try dsimp only at hSw); go_simp; try with_reducible rfl)
       try simp only [Act.put, layS]
       refine tkH 2 (.int .i64 (ka : Int)) rfl (fun w' hSw => ?_) ?_
       ·((try dsimp only at hSw); go_simp; try with_reducible rfl)
       try simp only [Act.put, layS]
       refine tkH 4 (.int .i64 1) rfl (fun w' hSw => ?_) ?_
       ·((try dsimp only at hSw); go_simp; try with_reducible rfl)
       try simp only [Act.put, layS]
       refine rd1 3 rfl (fun K hK => ?_);go_simp;have hbx := kbelow_box V0 (.cells #[.string ⟨#[]⟩, .string ⟨#[60]⟩, .string ⟨#[60, 61]⟩, .string ⟨#[61]⟩] 9);obtain ⟨s0', s1', s2', s3'⟩ := strs_at V0 ⟨#[]⟩ ⟨#[60]⟩ ⟨#[60, 61]⟩ ⟨#[61]⟩ 9;have hvl : V0.heap.size < (V0.alloc (.cells #[.string ⟨#[]⟩, .string ⟨#[60]⟩, .string ⟨#[60, 61]⟩, .string ⟨#[61]⟩] 9)).heap.size := by simp
       generalize V0.alloc (.cells #[.string ⟨#[]⟩, .string ⟨#[60]⟩, .string ⟨#[60, 61]⟩, .string ⟨#[61]⟩] 9) = V1 at hbx hvl s0' s1' s2' s3' ⊢;replace HX := Hd (HX.out.below hbx);clear t0 t1 ft0 ft1 r0 r1 r2 r3 r4 r5 r6 fr0 fr1 fr2 fr3 fr4 fr5 fr6 hrl;obtain ⟨⟨t0, t1⟩, ft0, ft1⟩ := HX.out.su.t.pair;obtain ⟨⟨r0, r1, r2, r3, r4, r5, r6⟩, fr0, fr1, fr2, fr3, fr4, fr5, fr6⟩ := HX.out.bx.seven;have hrl := HX.out.lt;clear hbx hvl;refine hK.out _ _ ⟨t0, t1, r4⟩ (fun hHeld => ?_);clear hK K
       try simp only [Act.put, layS]
       refine tkH 5 (.pointer (some ⟨V0.heap.size, 1, none⟩)) rfl (fun w' hSw => ?_) ?_
       ·((try dsimp only at hSw); go_simp; try with_reducible rfl)
       try simp only [Act.put, layS]
       refine rd1 6 rfl (fun K hK => ?_);go_simp;refine hK.out _ _ ⟨t0, t1, r4⟩ (fun hHeld => ?_);clear hK K
       try simp only [Act.put, layS]
       refine rd1 7 rfl (fun K hK => ?_);go_simp;refine (is_ref L g n c z ka ⟨#[60]⟩ _ (HT.out.below HX.out.su.bel HT.out.1) HN.out).mono ?_;rintro e w5 ⟨rfl, hb⟩;clear hHeld;rw [HTS.out.1];replace HX := Hd (HX.out.below hb);clear t0 t1 ft0 ft1 r0 r1 r2 r3 r4 r5 r6 fr0 fr1 fr2 fr3 fr4 fr5 fr6 hrl;obtain ⟨⟨t0, t1⟩, ft0, ft1⟩ := HX.out.su.t.pair;obtain ⟨⟨r0, r1, r2, r3, r4, r5, r6⟩, fr0, fr1, fr2, fr3, fr4, fr5, fr6⟩ := HX.out.bx.seven;have hrl := HX.out.lt;clear hb
       try go_wp2_with fail
       refine hK.out _ _ ⟨t0, t1, r4⟩ (fun hHeld => ?_);clear hK K
       try simp only [Act.put, layS]
       clear hHeld;refine wpAnyH_done (by kernel_rfl) ?_ _
       by_cases hq : t = 1
       ·rw [decide_eq_true hq];have HQ : Hid (wyT t 2 = 1) := Hd (wyT_hit hq (by omega));clear hq;clear t0 t1 ft0 ft1 r0 r1 r2 r3 r4 r5 r6 fr0 fr1 fr2 fr3 fr4 fr5 fr6 hrl;go_wp2_with fail
        go_roundw
        case rel => exact ⟨ay, cy, .inr (.inl ⟨by first | rfl | go_num, by rw [HQ.out], HX.out⟩)⟩
        case measure => simp [intOf]
       ·rw [dEf hq];have HQ : Hid (wyT t 2 = wyT t 1) := Hd (wyT_miss hq (by omega));clear hq;clear t0 t1 ft0 ft1 r0 r1 r2 r3 r4 r5 r6 fr0 fr1 fr2 fr3 fr4 fr5 fr6 hrl;go_wp2_with fail
        go_roundw
        case rel => exact ⟨ay, cy, .inr (.inl ⟨by first | rfl | go_num, by rw [HQ.out], HX.out⟩)⟩
        case measure => simp [intOf]
      ·obtain ⟨rfl, rfl, hX⟩ := hin;have HX := Hd hX;clear hX;obtain ⟨⟨t0, t1⟩, ft0, ft1⟩ := HX.out.su.t.pair;obtain ⟨⟨r0, r1, r2, r3, r4, r5, r6⟩, fr0, fr1, fr2, fr3, fr4, fr5, fr6⟩ := HX.out.bx.seven;have hrl := HX.out.lt;go_wp2_with fail
       have HD0 : Hid (Below wr.heap.size wr wr.drew) := Hd (kbelow_dN (Below.refl _ _) 1);refine wp_region_held_drew (S := fun w' => w'.cell? ⟨w.heap.size, 0, none⟩ = some (.slice (some ⟨g, 0, none⟩) n c) /\ w'.cell? ⟨w.heap.size, 1, none⟩ = some (.int .i64 z) /\ w'.cell? ⟨rb, 4, none⟩ = some (.int .i64 (ka : Int))) (by kernel_rfl) ⟨t0, t1, r4⟩ (fun hHeld => ?_);generalize wr.drew = V0 at HD0 hHeld ⊢;replace HX := Hd (HX.out.below HD0.out);clear t0 t1 ft0 ft1 r0 r1 r2 r3 r4 r5 r6 fr0 fr1 fr2 fr3 fr4 fr5 fr6 hrl;obtain ⟨⟨t0, t1⟩, ft0, ft1⟩ := HX.out.su.t.pair;obtain ⟨⟨r0, r1, r2, r3, r4, r5, r6⟩, fr0, fr1, fr2, fr3, fr4, fr5, fr6⟩ := HX.out.bx.seven;have hrl := HX.out.lt;clear HD0;refine tkH 0 (.agg #[.slice (some ⟨g, 0, none⟩) n c, .int .i64 z]) rfl (fun w' hSw => ?_) ?_
       ·((try dsimp only at hSw); go_simp; try with_reducible rfl)
       try simp only [Act.put, layS]
       refine tkH 1 (.pointer (some ⟨rb, 4, none⟩)) rfl (fun w' hSw => ?_) ?_
       ·((try dsimp only at hSw); go_simp; try with_reducible rfl)
       try simp only [Act.put, layS]
       refine tkH 2 (.int .i64 (ka : Int)) rfl (fun w' hSw => ?_) ?_
       ·((try dsimp only at hSw); go_simp; try with_reducible rfl)
       try simp only [Act.put, layS]
       refine tkH 4 (.int .i64 2) rfl (fun w' hSw => ?_) ?_
       ·((try dsimp only at hSw); go_simp; try with_reducible rfl)
       try simp only [Act.put, layS]
       refine rd1 3 rfl (fun K hK => ?_);go_simp;have hbx := kbelow_box V0 (.cells #[.string ⟨#[]⟩, .string ⟨#[60]⟩, .string ⟨#[60, 61]⟩, .string ⟨#[61]⟩] 9);obtain ⟨s0', s1', s2', s3'⟩ := strs_at V0 ⟨#[]⟩ ⟨#[60]⟩ ⟨#[60, 61]⟩ ⟨#[61]⟩ 9;have hvl : V0.heap.size < (V0.alloc (.cells #[.string ⟨#[]⟩, .string ⟨#[60]⟩, .string ⟨#[60, 61]⟩, .string ⟨#[61]⟩] 9)).heap.size := by simp
       generalize V0.alloc (.cells #[.string ⟨#[]⟩, .string ⟨#[60]⟩, .string ⟨#[60, 61]⟩, .string ⟨#[61]⟩] 9) = V1 at hbx hvl s0' s1' s2' s3' ⊢;replace HX := Hd (HX.out.below hbx);clear t0 t1 ft0 ft1 r0 r1 r2 r3 r4 r5 r6 fr0 fr1 fr2 fr3 fr4 fr5 fr6 hrl;obtain ⟨⟨t0, t1⟩, ft0, ft1⟩ := HX.out.su.t.pair;obtain ⟨⟨r0, r1, r2, r3, r4, r5, r6⟩, fr0, fr1, fr2, fr3, fr4, fr5, fr6⟩ := HX.out.bx.seven;have hrl := HX.out.lt;clear hbx hvl;refine hK.out _ _ ⟨t0, t1, r4⟩ (fun hHeld => ?_);clear hK K
       try simp only [Act.put, layS]
       refine tkH 5 (.pointer (some ⟨V0.heap.size, 2, none⟩)) rfl (fun w' hSw => ?_) ?_
       ·((try dsimp only at hSw); go_simp; try with_reducible rfl)
       try simp only [Act.put, layS]
       refine rd1 6 rfl (fun K hK => ?_);go_simp;refine hK.out _ _ ⟨t0, t1, r4⟩ (fun hHeld => ?_);clear hK K
       try simp only [Act.put, layS]
       refine rd1 7 rfl (fun K hK => ?_);go_simp;refine (is_ref L g n c z ka ⟨#[60, 61]⟩ _ (HT.out.below HX.out.su.bel HT.out.1) HN.out).mono ?_;rintro e w5 ⟨rfl, hb⟩;clear hHeld;rw [HTS.out.2.1];replace HX := Hd (HX.out.below hb);clear t0 t1 ft0 ft1 r0 r1 r2 r3 r4 r5 r6 fr0 fr1 fr2 fr3 fr4 fr5 fr6 hrl;obtain ⟨⟨t0, t1⟩, ft0, ft1⟩ := HX.out.su.t.pair;obtain ⟨⟨r0, r1, r2, r3, r4, r5, r6⟩, fr0, fr1, fr2, fr3, fr4, fr5, fr6⟩ := HX.out.bx.seven;have hrl := HX.out.lt;clear hb
       try go_wp2_with fail
       refine hK.out _ _ ⟨t0, t1, r4⟩ (fun hHeld => ?_);clear hK K
       try simp only [Act.put, layS]
       clear hHeld;refine wpAnyH_done (by kernel_rfl) ?_ _
       by_cases hq : t = 2
       ·rw [decide_eq_true hq];have HQ : Hid (wyT t 3 = 2) := Hd (wyT_hit hq (by omega));clear hq;clear t0 t1 ft0 ft1 r0 r1 r2 r3 r4 r5 r6 fr0 fr1 fr2 fr3 fr4 fr5 fr6 hrl;go_wp2_with fail
        go_roundw
        case rel => exact ⟨ay, cy, .inr (.inr (.inl ⟨by first | rfl | go_num, by rw [HQ.out], HX.out⟩))⟩
        case measure => simp [intOf]
       ·rw [dEf hq];have HQ : Hid (wyT t 3 = wyT t 2) := Hd (wyT_miss hq (by omega));clear hq;clear t0 t1 ft0 ft1 r0 r1 r2 r3 r4 r5 r6 fr0 fr1 fr2 fr3 fr4 fr5 fr6 hrl;go_wp2_with fail
        go_roundw
        case rel => exact ⟨ay, cy, .inr (.inr (.inl ⟨by first | rfl | go_num, by rw [HQ.out], HX.out⟩))⟩
        case measure => simp [intOf]
      ·obtain ⟨rfl, rfl, hX⟩ := hin;have HX := Hd hX;clear hX;obtain ⟨⟨t0, t1⟩, ft0, ft1⟩ := HX.out.su.t.pair;obtain ⟨⟨r0, r1, r2, r3, r4, r5, r6⟩, fr0, fr1, fr2, fr3, fr4, fr5, fr6⟩ := HX.out.bx.seven;have hrl := HX.out.lt;go_wp2_with fail
       have HD0 : Hid (Below wr.heap.size wr wr.drew) := Hd (kbelow_dN (Below.refl _ _) 1);refine wp_region_held_drew (S := fun w' => w'.cell? ⟨w.heap.size, 0, none⟩ = some (.slice (some ⟨g, 0, none⟩) n c) /\ w'.cell? ⟨w.heap.size, 1, none⟩ = some (.int .i64 z) /\ w'.cell? ⟨rb, 4, none⟩ = some (.int .i64 (ka : Int))) (by kernel_rfl) ⟨t0, t1, r4⟩ (fun hHeld => ?_);generalize wr.drew = V0 at HD0 hHeld ⊢;replace HX := Hd (HX.out.below HD0.out);clear t0 t1 ft0 ft1 r0 r1 r2 r3 r4 r5 r6 fr0 fr1 fr2 fr3 fr4 fr5 fr6 hrl;obtain ⟨⟨t0, t1⟩, ft0, ft1⟩ := HX.out.su.t.pair;obtain ⟨⟨r0, r1, r2, r3, r4, r5, r6⟩, fr0, fr1, fr2, fr3, fr4, fr5, fr6⟩ := HX.out.bx.seven;have hrl := HX.out.lt;clear HD0;refine tkH 0 (.agg #[.slice (some ⟨g, 0, none⟩) n c, .int .i64 z]) rfl (fun w' hSw => ?_) ?_
       ·((try dsimp only at hSw); go_simp; try with_reducible rfl)
       try simp only [Act.put, layS]
       refine tkH 1 (.pointer (some ⟨rb, 4, none⟩)) rfl (fun w' hSw => ?_) ?_
       ·((try dsimp only at hSw); go_simp; try with_reducible rfl)
       try simp only [Act.put, layS]
       refine tkH 2 (.int .i64 (ka : Int)) rfl (fun w' hSw => ?_) ?_
       ·((try dsimp only at hSw); go_simp; try with_reducible rfl)
       try simp only [Act.put, layS]
       refine tkH 4 (.int .i64 3) rfl (fun w' hSw => ?_) ?_
       ·((try dsimp only at hSw); go_simp; try with_reducible rfl)
       try simp only [Act.put, layS]
       refine rd1 3 rfl (fun K hK => ?_);go_simp;have hbx := kbelow_box V0 (.cells #[.string ⟨#[]⟩, .string ⟨#[60]⟩, .string ⟨#[60, 61]⟩, .string ⟨#[61]⟩] 9);obtain ⟨s0', s1', s2', s3'⟩ := strs_at V0 ⟨#[]⟩ ⟨#[60]⟩ ⟨#[60, 61]⟩ ⟨#[61]⟩ 9;have hvl : V0.heap.size < (V0.alloc (.cells #[.string ⟨#[]⟩, .string ⟨#[60]⟩, .string ⟨#[60, 61]⟩, .string ⟨#[61]⟩] 9)).heap.size := by simp
       generalize V0.alloc (.cells #[.string ⟨#[]⟩, .string ⟨#[60]⟩, .string ⟨#[60, 61]⟩, .string ⟨#[61]⟩] 9) = V1 at hbx hvl s0' s1' s2' s3' ⊢;replace HX := Hd (HX.out.below hbx);clear t0 t1 ft0 ft1 r0 r1 r2 r3 r4 r5 r6 fr0 fr1 fr2 fr3 fr4 fr5 fr6 hrl;obtain ⟨⟨t0, t1⟩, ft0, ft1⟩ := HX.out.su.t.pair;obtain ⟨⟨r0, r1, r2, r3, r4, r5, r6⟩, fr0, fr1, fr2, fr3, fr4, fr5, fr6⟩ := HX.out.bx.seven;have hrl := HX.out.lt;clear hbx hvl;refine hK.out _ _ ⟨t0, t1, r4⟩ (fun hHeld => ?_);clear hK K
       try simp only [Act.put, layS]
       refine tkH 5 (.pointer (some ⟨V0.heap.size, 3, none⟩)) rfl (fun w' hSw => ?_) ?_
       ·((try dsimp only at hSw); go_simp; try with_reducible rfl)
       try simp only [Act.put, layS]
       refine rd1 6 rfl (fun K hK => ?_);go_simp;refine hK.out _ _ ⟨t0, t1, r4⟩ (fun hHeld => ?_);clear hK K
       try simp only [Act.put, layS]
       refine rd1 7 rfl (fun K hK => ?_);go_simp;refine (is_ref L g n c z ka ⟨#[61]⟩ _ (HT.out.below HX.out.su.bel HT.out.1) HN.out).mono ?_;rintro e w5 ⟨rfl, hb⟩;clear hHeld;rw [HTS.out.2.2];replace HX := Hd (HX.out.below hb);clear t0 t1 ft0 ft1 r0 r1 r2 r3 r4 r5 r6 fr0 fr1 fr2 fr3 fr4 fr5 fr6 hrl;obtain ⟨⟨t0, t1⟩, ft0, ft1⟩ := HX.out.su.t.pair;obtain ⟨⟨r0, r1, r2, r3, r4, r5, r6⟩, fr0, fr1, fr2, fr3, fr4, fr5, fr6⟩ := HX.out.bx.seven;have hrl := HX.out.lt;clear hb
       try go_wp2_with fail
       refine hK.out _ _ ⟨t0, t1, r4⟩ (fun hHeld => ?_);clear hK K
       try simp only [Act.put, layS]
       clear hHeld;refine wpAnyH_done (by kernel_rfl) ?_ _
       by_cases hq : t = 3
       ·rw [decide_eq_true hq];have HQ : Hid (wyT t 4 = 3) := Hd (wyT_hit hq (by omega));clear hq;clear t0 t1 ft0 ft1 r0 r1 r2 r3 r4 r5 r6 fr0 fr1 fr2 fr3 fr4 fr5 fr6 hrl;go_wp2_with fail
        go_roundw
        case rel => exact ⟨ay, cy, .inr (.inr (.inr ⟨by first | rfl | go_num, by rw [HQ.out], HX.out⟩))⟩
        case measure => simp [intOf]
       ·rw [dEf hq];have HQ : Hid (wyT t 4 = wyT t 3) := Hd (wyT_miss hq (by omega));clear hq;clear t0 t1 ft0 ft1 r0 r1 r2 r3 r4 r5 r6 fr0 fr1 fr2 fr3 fr4 fr5 fr6 hrl;go_wp2_with fail
        go_roundw
        case rel => exact ⟨ay, cy, .inr (.inr (.inr ⟨by first | rfl | go_num, by rw [HQ.out], HX.out⟩))⟩
        case measure => simp [intOf]
      ·obtain ⟨rfl, rfl, hX⟩ := hin;have HX := Hd hX;clear hX;obtain ⟨⟨t0, t1⟩, ft0, ft1⟩ := HX.out.su.t.pair;obtain ⟨⟨r0, r1, r2, r3, r4, r5, r6⟩, fr0, fr1, fr2, fr3, fr4, fr5, fr6⟩ := HX.out.bx.seven;have hrl := HX.out.lt;rw [wyT_4 HTB.out.2.1];have ht0 : (t == 0) = false := by have := HTB.out; simp; omega
       have ht1 : decide (t = 0) = false := dEf (by have := HTB.out; omega);have hP4 := HX.out.at4 p2;have HPP := Hd hP4;clear hP4
       go_upto_region 23 with fail
       generalize wr.setCell ⟨rb, 4, none⟩ (.int .i64 (p2 : Int)) = v5 at HPP ⊢;clear HX;clear t0 t1 ft0 ft1 r0 r1 r2 r3 r4 r5 r6 fr0 fr1 fr2 fr3 fr4 fr5 fr6 hrl;have HX := HPP;obtain ⟨⟨t0, t1⟩, ft0, ft1⟩ := HX.out.su.t.pair;obtain ⟨⟨r0, r1, r2, r3, r4, r5, r6⟩, fr0, fr1, fr2, fr3, fr4, fr5, fr6⟩ := HX.out.bx.seven;have hrl := HX.out.lt;go_wp2_with fail
       refine (HOP.out _ (HT.out.below HX.out.su.bel HT.out.1)).mono ?_;rintro e w7 ⟨a7, c7, rfl, hk7, hb⟩;have hk8 := hk7.mono (Q := ExP (w.heap.size + 1) rb u5) (fun b hb _ => ⟨Nat.lt_trans HX.out.gt (Nat.lt_of_lt_of_le HX.out.lt hb), by have := HX.out.lt; omega, fun e => by have := (HX.out.gr.lt b e.symm).2; omega⟩);have hk9 := hk8;replace HX := Hd (HX.out.below hb);clear t0 t1 ft0 ft1 r0 r1 r2 r3 r4 r5 r6 fr0 fr1 fr2 fr3 fr4 fr5 fr6 hrl;obtain ⟨⟨t0, t1⟩, ft0, ft1⟩ := HX.out.su.t.pair;obtain ⟨⟨r0, r1, r2, r3, r4, r5, r6⟩, fr0, fr1, fr2, fr3, fr4, fr5, fr6⟩ := HX.out.bx.seven;have hrl := HX.out.lt;clear hb hk7 hk9;have hP := HX.out.put c7 kb hk8;simp only [rdL, putL, Nat.zero_add, Nat.reduceAdd] at hP;have HPP := Hd hP;clear hP hk8;unfold rdV;go_wp2_with (at_builtin; refine wpList_app_ex _ rfl _ _ rfl (rb + 1) u5 M rfl ?hgw w7.heap.size 1 ⟨xb, a7, c7⟩ rfl ?hcm ?hbd ?hB ?_; rotate_right; intro v9 w9 hg9 hgr9 hv9; refine Hid.out ?_)
       case hgw => exact HPP.out.gr.alloc _
       case hcm => exact Bxs.made_at _ (by simp) (exL xb a7 c7) _
       case hbd =>
        have h9 := congrArg List.length HML.out;rw [List.length_map] at h9;simp only [List.length_cons, List.length_nil] at h9;omega
       case hB => have := HX.out.lt; simp; omega
       have HX9 := Hd (HPP.out.app hg9 hgr9 hv9);clear hg9 hgr9 hv9;refine Hd ?_;clear t0 t1 ft0 ft1 r0 r1 r2 r3 r4 r5 r6 fr0 fr1 fr2 fr3 fr4 fr5 fr6 hrl;go_wp2_with fail
       go_roundw
       case rel => exact .inr (.inr (.inl ⟨by first | rfl | go_num, rfl, a7, c7, M ++ [⟨xb, a7, c7⟩], by rw [List.map_append, HML.out]; rfl, HX9.out⟩))
       case measure => first | decide | (simp [intOf] <;> omega)
    ·have HX := Hd hX;have HML := Hd hM;have HM := HM2;have HOP := HOC;clear hX hM;obtain ⟨⟨t0, t1⟩, ft0, ft1⟩ := HX.out.su.t.pair;obtain ⟨⟨r0, r1, r2, r3, r4, r5, r6⟩, fr0, fr1, fr2, fr3, fr4, fr5, fr6⟩ := HX.out.bx.seven;have hrl := HX.out.lt;go_wp2_with fail
     go_cut [] from 24 to 30 (fun wx => ∃ (a5 : Option Addr) (c5 : Nat), ExB w wx g n c z rb (xb) a5 c5 p3 M u5)
     case first =>
      have HD0 : Hid (Below wr.heap.size wr wr.drew) := Hd (kbelow_dN (Below.refl _ _) 1);refine wp_region_held_drew (S := fun w' => w'.cell? ⟨w.heap.size, 0, none⟩ = some (.slice (some ⟨g, 0, none⟩) n c) /\ w'.cell? ⟨w.heap.size, 1, none⟩ = some (.int .i64 z)) (by kernel_rfl) ⟨t0, t1⟩ (fun hHeld => ?_);generalize wr.drew = V0 at HD0 hHeld ⊢;replace HX := Hd (HX.out.below HD0.out);clear t0 t1 ft0 ft1 r0 r1 r2 r3 r4 r5 r6 fr0 fr1 fr2 fr3 fr4 fr5 fr6 hrl;obtain ⟨⟨t0, t1⟩, ft0, ft1⟩ := HX.out.su.t.pair;obtain ⟨⟨r0, r1, r2, r3, r4, r5, r6⟩, fr0, fr1, fr2, fr3, fr4, fr5, fr6⟩ := HX.out.bx.seven;have hrl := HX.out.lt;clear HD0;refine tkH 0 (.agg #[.slice (some ⟨g, 0, none⟩) n c, .int .i64 z]) rfl (fun w' hSw => ?_) ?_
      ·((try dsimp only at hSw); go_simp; try with_reducible rfl)
      try simp only [Act.put, layS]
      refine tkH 3 (.int .i64 2) rfl (fun w' hSw => ?_) ?_
      ·((try dsimp only at hSw); go_simp; try with_reducible rfl)
      try simp only [Act.put, layS]
      refine rd2 1 2 rfl (fun K hK => ?_) rfl (fun K hK => ?_)
      ·go_simp;refine hK.out _ _ ⟨t0, t1⟩ (fun hHeld => ?_);clear hK K
       try simp only [Act.put, layS]
       refine rd1 2 rfl (fun K hK => ?_);go_simp;have hbx := kbelow_box V0 (.cells #[.string ⟨#[105, 102]⟩, .string ⟨#[]⟩, .string ⟨#[116, 104, 101, 110]⟩, .string ⟨#[101, 108, 115, 101]⟩] 9);obtain ⟨s0', s1', s2', s3'⟩ := strs_at V0 ⟨#[105, 102]⟩ ⟨#[]⟩ ⟨#[116, 104, 101, 110]⟩ ⟨#[101, 108, 115, 101]⟩ 9;have hvl : V0.heap.size < (V0.alloc (.cells #[.string ⟨#[105, 102]⟩, .string ⟨#[]⟩, .string ⟨#[116, 104, 101, 110]⟩, .string ⟨#[101, 108, 115, 101]⟩] 9)).heap.size := by simp
       generalize V0.alloc (.cells #[.string ⟨#[105, 102]⟩, .string ⟨#[]⟩, .string ⟨#[116, 104, 101, 110]⟩, .string ⟨#[101, 108, 115, 101]⟩] 9) = V1 at hbx hvl s0' s1' s2' s3' ⊢;replace HX := Hd (HX.out.below hbx);clear t0 t1 ft0 ft1 r0 r1 r2 r3 r4 r5 r6 fr0 fr1 fr2 fr3 fr4 fr5 fr6 hrl;obtain ⟨⟨t0, t1⟩, ft0, ft1⟩ := HX.out.su.t.pair;obtain ⟨⟨r0, r1, r2, r3, r4, r5, r6⟩, fr0, fr1, fr2, fr3, fr4, fr5, fr6⟩ := HX.out.bx.seven;have hrl := HX.out.lt;clear hbx hvl;refine hK.out _ _ ⟨t0, t1⟩ (fun hHeld => ?_);clear hK K
       try simp only [Act.put, layS]
       refine tkH 4 (.pointer (some ⟨V0.heap.size, 2, none⟩)) rfl (fun w' hSw => ?_) ?_
       ·((try dsimp only at hSw); go_simp; try with_reducible rfl)
       try simp only [Act.put, layS]
       refine rd1 5 rfl (fun K hK => ?_);go_simp;refine hK.out _ _ ⟨t0, t1⟩ (fun hHeld => ?_);clear hK K
       try simp only [Act.put, layS]
       refine rd1 6 rfl (fun K hK => ?_);go_simp;refine (HM.out _ _ _ (HT.out.below HX.out.su.bel HT.out.1)).mono ?_;rintro e w5 ⟨rfl, hb⟩;clear hHeld;replace HX := Hd (HX.out.below hb);clear t0 t1 ft0 ft1 r0 r1 r2 r3 r4 r5 r6 fr0 fr1 fr2 fr3 fr4 fr5 fr6 hrl;obtain ⟨⟨t0, t1⟩, ft0, ft1⟩ := HX.out.su.t.pair;obtain ⟨⟨r0, r1, r2, r3, r4, r5, r6⟩, fr0, fr1, fr2, fr3, fr4, fr5, fr6⟩ := HX.out.bx.seven;have hrl := HX.out.lt;clear hb;unfold rdV
       try go_wp2_with fail
       refine hK.out _ _ ⟨t0, t1⟩ (fun hHeld => ?_);clear hK K
       try simp only [Act.put, layS]
       refine rd1 7 rfl (fun K hK => ?_);have hP := HX.out.put (y' := xb) (ay' := ay) cy p3 HX.out.ks;simp only [rdL, putL, Nat.zero_add, Nat.reduceAdd] at hP;have HPP := Hd hP;clear hP;go_simp;refine hK.out _ _ HPP.out.su.t.pair.1 (fun hHeld => ?_);clear hK K hHeld;refine wpAnyH_done (by kernel_rfl) ?_ _
       try go_wp2_with fail
       go_meet;exact ⟨_, _, HPP.out⟩
      ·go_simp;have hbx := kbelow_box V0 (.cells #[.string ⟨#[105, 102]⟩, .string ⟨#[]⟩, .string ⟨#[116, 104, 101, 110]⟩, .string ⟨#[101, 108, 115, 101]⟩] 9);obtain ⟨s0', s1', s2', s3'⟩ := strs_at V0 ⟨#[105, 102]⟩ ⟨#[]⟩ ⟨#[116, 104, 101, 110]⟩ ⟨#[101, 108, 115, 101]⟩ 9;have hvl : V0.heap.size < (V0.alloc (.cells #[.string ⟨#[105, 102]⟩, .string ⟨#[]⟩, .string ⟨#[116, 104, 101, 110]⟩, .string ⟨#[101, 108, 115, 101]⟩] 9)).heap.size := by simp
       generalize V0.alloc (.cells #[.string ⟨#[105, 102]⟩, .string ⟨#[]⟩, .string ⟨#[116, 104, 101, 110]⟩, .string ⟨#[101, 108, 115, 101]⟩] 9) = V1 at hbx hvl s0' s1' s2' s3' ⊢;replace HX := Hd (HX.out.below hbx);clear t0 t1 ft0 ft1 r0 r1 r2 r3 r4 r5 r6 fr0 fr1 fr2 fr3 fr4 fr5 fr6 hrl;obtain ⟨⟨t0, t1⟩, ft0, ft1⟩ := HX.out.su.t.pair;obtain ⟨⟨r0, r1, r2, r3, r4, r5, r6⟩, fr0, fr1, fr2, fr3, fr4, fr5, fr6⟩ := HX.out.bx.seven;have hrl := HX.out.lt;clear hbx hvl;refine hK.out _ _ ⟨t0, t1⟩ (fun hHeld => ?_);clear hK K
       try simp only [Act.put, layS]
       refine tkH 4 (.pointer (some ⟨V0.heap.size, 2, none⟩)) rfl (fun w' hSw => ?_) ?_
       ·((try dsimp only at hSw); go_simp; try with_reducible rfl)
       try simp only [Act.put, layS]
       refine rd2 1 5 rfl (fun K hK => ?_) rfl (fun K hK => ?_)
       ·go_simp;refine hK.out _ _ ⟨t0, t1⟩ (fun hHeld => ?_);clear hK K
        try simp only [Act.put, layS]
        refine rd1 5 rfl (fun K hK => ?_);go_simp;refine hK.out _ _ ⟨t0, t1⟩ (fun hHeld => ?_);clear hK K
        try simp only [Act.put, layS]
        refine rd1 6 rfl (fun K hK => ?_);go_simp;refine (HM.out _ _ _ (HT.out.below HX.out.su.bel HT.out.1)).mono ?_;rintro e w5 ⟨rfl, hb⟩;clear hHeld;replace HX := Hd (HX.out.below hb);clear t0 t1 ft0 ft1 r0 r1 r2 r3 r4 r5 r6 fr0 fr1 fr2 fr3 fr4 fr5 fr6 hrl;obtain ⟨⟨t0, t1⟩, ft0, ft1⟩ := HX.out.su.t.pair;obtain ⟨⟨r0, r1, r2, r3, r4, r5, r6⟩, fr0, fr1, fr2, fr3, fr4, fr5, fr6⟩ := HX.out.bx.seven;have hrl := HX.out.lt;clear hb;unfold rdV
        try go_wp2_with fail
        refine hK.out _ _ ⟨t0, t1⟩ (fun hHeld => ?_);clear hK K
        try simp only [Act.put, layS]
        refine rd1 7 rfl (fun K hK => ?_);have hP := HX.out.put (y' := xb) (ay' := ay) cy p3 HX.out.ks;simp only [rdL, putL, Nat.zero_add, Nat.reduceAdd] at hP;have HPP := Hd hP;clear hP;go_simp;refine hK.out _ _ HPP.out.su.t.pair.1 (fun hHeld => ?_);clear hK K hHeld;refine wpAnyH_done (by kernel_rfl) ?_ _
        try go_wp2_with fail
        go_meet;exact ⟨_, _, HPP.out⟩
       ·go_simp;refine hK.out _ _ ⟨t0, t1⟩ (fun hHeld => ?_);clear hK K
        try simp only [Act.put, layS]
        refine rd1 1 rfl (fun K hK => ?_);go_simp;refine hK.out _ _ ⟨t0, t1⟩ (fun hHeld => ?_);clear hK K
        try simp only [Act.put, layS]
        refine rd1 6 rfl (fun K hK => ?_);go_simp;refine (HM.out _ _ _ (HT.out.below HX.out.su.bel HT.out.1)).mono ?_;rintro e w5 ⟨rfl, hb⟩;clear hHeld;replace HX := Hd (HX.out.below hb);clear t0 t1 ft0 ft1 r0 r1 r2 r3 r4 r5 r6 fr0 fr1 fr2 fr3 fr4 fr5 fr6 hrl;obtain ⟨⟨t0, t1⟩, ft0, ft1⟩ := HX.out.su.t.pair;obtain ⟨⟨r0, r1, r2, r3, r4, r5, r6⟩, fr0, fr1, fr2, fr3, fr4, fr5, fr6⟩ := HX.out.bx.seven;have hrl := HX.out.lt;clear hb;unfold rdV
        try go_wp2_with fail
        refine hK.out _ _ ⟨t0, t1⟩ (fun hHeld => ?_);clear hK K
        try simp only [Act.put, layS]
        refine rd1 7 rfl (fun K hK => ?_);have hP := HX.out.put (y' := xb) (ay' := ay) cy p3 HX.out.ks;simp only [rdL, putL, Nat.zero_add, Nat.reduceAdd] at hP;have HPP := Hd hP;clear hP;go_simp;refine hK.out _ _ HPP.out.su.t.pair.1 (fun hHeld => ?_);clear hK K hHeld;refine wpAnyH_done (by kernel_rfl) ?_ _
        try go_wp2_with fail
        go_meet;exact ⟨_, _, HPP.out⟩
     case rest =>
      clear t0 t1 ft0 ft1 r0 r1 r2 r3 r4 r5 r6 fr0 fr1 fr2 fr3 fr4 fr5 fr6 hrl;clear HX HM;obtain ⟨ay, cy, hX⟩ := hcut;have HX := Hd hX;clear hX;obtain ⟨⟨t0, t1⟩, ft0, ft1⟩ := HX.out.su.t.pair;obtain ⟨⟨r0, r1, r2, r3, r4, r5, r6⟩, fr0, fr1, fr2, fr3, fr4, fr5, fr6⟩ := HX.out.bx.seven;have hrl := HX.out.lt;go_wp2_with fail
      refine (HOP.out _ (HT.out.below HX.out.su.bel HT.out.1)).mono ?_;rintro e w7 ⟨a7, c7, rfl, hk7, hb⟩;have hk8 := hk7.mono (Q := ExP (w.heap.size + 1) rb u5) (fun b hb _ => ⟨Nat.lt_trans HX.out.gt (Nat.lt_of_lt_of_le HX.out.lt hb), by have := HX.out.lt; omega, fun e => by have := (HX.out.gr.lt b e.symm).2; omega⟩);have hk9 := hk8;replace HX := Hd (HX.out.below hb);clear t0 t1 ft0 ft1 r0 r1 r2 r3 r4 r5 r6 fr0 fr1 fr2 fr3 fr4 fr5 fr6 hrl;obtain ⟨⟨t0, t1⟩, ft0, ft1⟩ := HX.out.su.t.pair;obtain ⟨⟨r0, r1, r2, r3, r4, r5, r6⟩, fr0, fr1, fr2, fr3, fr4, fr5, fr6⟩ := HX.out.bx.seven;have hrl := HX.out.lt;clear hb hk7 hk9;have hP := HX.out.put c7 kc hk8;simp only [rdL, putL, Nat.zero_add, Nat.reduceAdd] at hP;have HPP := Hd hP;clear hP hk8;unfold rdV;go_wp2_with (at_builtin; refine wpList_app_ex _ rfl _ _ rfl (rb + 1) u5 M rfl ?hgw w7.heap.size 1 ⟨xc, a7, c7⟩ rfl ?hcm ?hbd ?hB ?_; rotate_right; intro v9 w9 hg9 hgr9 hv9; refine Hid.out ?_)
      case hgw => exact HPP.out.gr.alloc _
      case hcm => exact Bxs.made_at _ (by simp) (exL xc a7 c7) _
      case hbd =>
       have h9 := congrArg List.length HML.out;rw [List.length_map] at h9;simp only [List.length_cons, List.length_nil] at h9;omega
      case hB => have := HX.out.lt; simp; omega
      have HX9 := Hd (HPP.out.app hg9 hgr9 hv9);clear hg9 hgr9 hv9;refine Hd ?_;clear t0 t1 ft0 ft1 r0 r1 r2 r3 r4 r5 r6 fr0 fr1 fr2 fr3 fr4 fr5 fr6 hrl;go_wp2_with fail
      go_roundw
      case rel => exact .inr (.inr (.inr (.inl ⟨by first | rfl | go_num, rfl, a7, c7, M ++ [⟨xc, a7, c7⟩], by rw [List.map_append, HML.out]; rfl, HX9.out⟩)))
      case measure => first | decide | (simp [intOf] <;> omega)
    ·have HX := Hd hX;have HML := Hd hM;have HM := HM3;have HOP := HOD;clear hX hM;obtain ⟨⟨t0, t1⟩, ft0, ft1⟩ := HX.out.su.t.pair;obtain ⟨⟨r0, r1, r2, r3, r4, r5, r6⟩, fr0, fr1, fr2, fr3, fr4, fr5, fr6⟩ := HX.out.bx.seven;have hrl := HX.out.lt;go_wp2_with fail
     go_cut [] from 24 to 30 (fun wx => ∃ (a5 : Option Addr) (c5 : Nat), ExB w wx g n c z rb (xc) a5 c5 p4 M u5)
     case first =>
      have HD0 : Hid (Below wr.heap.size wr wr.drew) := Hd (kbelow_dN (Below.refl _ _) 1);refine wp_region_held_drew (S := fun w' => w'.cell? ⟨w.heap.size, 0, none⟩ = some (.slice (some ⟨g, 0, none⟩) n c) /\ w'.cell? ⟨w.heap.size, 1, none⟩ = some (.int .i64 z)) (by kernel_rfl) ⟨t0, t1⟩ (fun hHeld => ?_);generalize wr.drew = V0 at HD0 hHeld ⊢;replace HX := Hd (HX.out.below HD0.out);clear t0 t1 ft0 ft1 r0 r1 r2 r3 r4 r5 r6 fr0 fr1 fr2 fr3 fr4 fr5 fr6 hrl;obtain ⟨⟨t0, t1⟩, ft0, ft1⟩ := HX.out.su.t.pair;obtain ⟨⟨r0, r1, r2, r3, r4, r5, r6⟩, fr0, fr1, fr2, fr3, fr4, fr5, fr6⟩ := HX.out.bx.seven;have hrl := HX.out.lt;clear HD0;refine tkH 0 (.agg #[.slice (some ⟨g, 0, none⟩) n c, .int .i64 z]) rfl (fun w' hSw => ?_) ?_
      ·((try dsimp only at hSw); go_simp; try with_reducible rfl)
      try simp only [Act.put, layS]
      refine tkH 3 (.int .i64 3) rfl (fun w' hSw => ?_) ?_
      ·((try dsimp only at hSw); go_simp; try with_reducible rfl)
      try simp only [Act.put, layS]
      refine rd2 1 2 rfl (fun K hK => ?_) rfl (fun K hK => ?_)
      ·go_simp;refine hK.out _ _ ⟨t0, t1⟩ (fun hHeld => ?_);clear hK K
       try simp only [Act.put, layS]
       refine rd1 2 rfl (fun K hK => ?_);go_simp;have hbx := kbelow_box V0 (.cells #[.string ⟨#[105, 102]⟩, .string ⟨#[]⟩, .string ⟨#[116, 104, 101, 110]⟩, .string ⟨#[101, 108, 115, 101]⟩] 9);obtain ⟨s0', s1', s2', s3'⟩ := strs_at V0 ⟨#[105, 102]⟩ ⟨#[]⟩ ⟨#[116, 104, 101, 110]⟩ ⟨#[101, 108, 115, 101]⟩ 9;have hvl : V0.heap.size < (V0.alloc (.cells #[.string ⟨#[105, 102]⟩, .string ⟨#[]⟩, .string ⟨#[116, 104, 101, 110]⟩, .string ⟨#[101, 108, 115, 101]⟩] 9)).heap.size := by simp
       generalize V0.alloc (.cells #[.string ⟨#[105, 102]⟩, .string ⟨#[]⟩, .string ⟨#[116, 104, 101, 110]⟩, .string ⟨#[101, 108, 115, 101]⟩] 9) = V1 at hbx hvl s0' s1' s2' s3' ⊢;replace HX := Hd (HX.out.below hbx);clear t0 t1 ft0 ft1 r0 r1 r2 r3 r4 r5 r6 fr0 fr1 fr2 fr3 fr4 fr5 fr6 hrl;obtain ⟨⟨t0, t1⟩, ft0, ft1⟩ := HX.out.su.t.pair;obtain ⟨⟨r0, r1, r2, r3, r4, r5, r6⟩, fr0, fr1, fr2, fr3, fr4, fr5, fr6⟩ := HX.out.bx.seven;have hrl := HX.out.lt;clear hbx hvl;refine hK.out _ _ ⟨t0, t1⟩ (fun hHeld => ?_);clear hK K
       try simp only [Act.put, layS]
       refine tkH 4 (.pointer (some ⟨V0.heap.size, 3, none⟩)) rfl (fun w' hSw => ?_) ?_
       ·((try dsimp only at hSw); go_simp; try with_reducible rfl)
       try simp only [Act.put, layS]
       refine rd1 5 rfl (fun K hK => ?_);go_simp;refine hK.out _ _ ⟨t0, t1⟩ (fun hHeld => ?_);clear hK K
       try simp only [Act.put, layS]
       refine rd1 6 rfl (fun K hK => ?_);go_simp;refine (HM.out _ _ _ (HT.out.below HX.out.su.bel HT.out.1)).mono ?_;rintro e w5 ⟨rfl, hb⟩;clear hHeld;replace HX := Hd (HX.out.below hb);clear t0 t1 ft0 ft1 r0 r1 r2 r3 r4 r5 r6 fr0 fr1 fr2 fr3 fr4 fr5 fr6 hrl;obtain ⟨⟨t0, t1⟩, ft0, ft1⟩ := HX.out.su.t.pair;obtain ⟨⟨r0, r1, r2, r3, r4, r5, r6⟩, fr0, fr1, fr2, fr3, fr4, fr5, fr6⟩ := HX.out.bx.seven;have hrl := HX.out.lt;clear hb;unfold rdV
       try go_wp2_with fail
       refine hK.out _ _ ⟨t0, t1⟩ (fun hHeld => ?_);clear hK K
       try simp only [Act.put, layS]
       refine rd1 7 rfl (fun K hK => ?_);have hP := HX.out.put (y' := xc) (ay' := ay) cy p4 HX.out.ks;simp only [rdL, putL, Nat.zero_add, Nat.reduceAdd] at hP;have HPP := Hd hP;clear hP;go_simp;refine hK.out _ _ HPP.out.su.t.pair.1 (fun hHeld => ?_);clear hK K hHeld;refine wpAnyH_done (by kernel_rfl) ?_ _
       try go_wp2_with fail
       go_meet;exact ⟨_, _, HPP.out⟩
      ·go_simp;have hbx := kbelow_box V0 (.cells #[.string ⟨#[105, 102]⟩, .string ⟨#[]⟩, .string ⟨#[116, 104, 101, 110]⟩, .string ⟨#[101, 108, 115, 101]⟩] 9);obtain ⟨s0', s1', s2', s3'⟩ := strs_at V0 ⟨#[105, 102]⟩ ⟨#[]⟩ ⟨#[116, 104, 101, 110]⟩ ⟨#[101, 108, 115, 101]⟩ 9;have hvl : V0.heap.size < (V0.alloc (.cells #[.string ⟨#[105, 102]⟩, .string ⟨#[]⟩, .string ⟨#[116, 104, 101, 110]⟩, .string ⟨#[101, 108, 115, 101]⟩] 9)).heap.size := by simp
       generalize V0.alloc (.cells #[.string ⟨#[105, 102]⟩, .string ⟨#[]⟩, .string ⟨#[116, 104, 101, 110]⟩, .string ⟨#[101, 108, 115, 101]⟩] 9) = V1 at hbx hvl s0' s1' s2' s3' ⊢;replace HX := Hd (HX.out.below hbx);clear t0 t1 ft0 ft1 r0 r1 r2 r3 r4 r5 r6 fr0 fr1 fr2 fr3 fr4 fr5 fr6 hrl;obtain ⟨⟨t0, t1⟩, ft0, ft1⟩ := HX.out.su.t.pair;obtain ⟨⟨r0, r1, r2, r3, r4, r5, r6⟩, fr0, fr1, fr2, fr3, fr4, fr5, fr6⟩ := HX.out.bx.seven;have hrl := HX.out.lt;clear hbx hvl;refine hK.out _ _ ⟨t0, t1⟩ (fun hHeld => ?_);clear hK K
       try simp only [Act.put, layS]
       refine tkH 4 (.pointer (some ⟨V0.heap.size, 3, none⟩)) rfl (fun w' hSw => ?_) ?_
       ·((try dsimp only at hSw); go_simp; try with_reducible rfl)
       try simp only [Act.put, layS]
       refine rd2 1 5 rfl (fun K hK => ?_) rfl (fun K hK => ?_)
       ·go_simp;refine hK.out _ _ ⟨t0, t1⟩ (fun hHeld => ?_);clear hK K
        try simp only [Act.put, layS]
        refine rd1 5 rfl (fun K hK => ?_);go_simp;refine hK.out _ _ ⟨t0, t1⟩ (fun hHeld => ?_);clear hK K
        try simp only [Act.put, layS]
        refine rd1 6 rfl (fun K hK => ?_);go_simp;refine (HM.out _ _ _ (HT.out.below HX.out.su.bel HT.out.1)).mono ?_;rintro e w5 ⟨rfl, hb⟩;clear hHeld;replace HX := Hd (HX.out.below hb);clear t0 t1 ft0 ft1 r0 r1 r2 r3 r4 r5 r6 fr0 fr1 fr2 fr3 fr4 fr5 fr6 hrl;obtain ⟨⟨t0, t1⟩, ft0, ft1⟩ := HX.out.su.t.pair;obtain ⟨⟨r0, r1, r2, r3, r4, r5, r6⟩, fr0, fr1, fr2, fr3, fr4, fr5, fr6⟩ := HX.out.bx.seven;have hrl := HX.out.lt;clear hb;unfold rdV
        try go_wp2_with fail
        refine hK.out _ _ ⟨t0, t1⟩ (fun hHeld => ?_);clear hK K
        try simp only [Act.put, layS]
        refine rd1 7 rfl (fun K hK => ?_);have hP := HX.out.put (y' := xc) (ay' := ay) cy p4 HX.out.ks;simp only [rdL, putL, Nat.zero_add, Nat.reduceAdd] at hP;have HPP := Hd hP;clear hP;go_simp;refine hK.out _ _ HPP.out.su.t.pair.1 (fun hHeld => ?_);clear hK K hHeld;refine wpAnyH_done (by kernel_rfl) ?_ _
        try go_wp2_with fail
        go_meet;exact ⟨_, _, HPP.out⟩
       ·go_simp;refine hK.out _ _ ⟨t0, t1⟩ (fun hHeld => ?_);clear hK K
        try simp only [Act.put, layS]
        refine rd1 1 rfl (fun K hK => ?_);go_simp;refine hK.out _ _ ⟨t0, t1⟩ (fun hHeld => ?_);clear hK K
        try simp only [Act.put, layS]
        refine rd1 6 rfl (fun K hK => ?_);go_simp;refine (HM.out _ _ _ (HT.out.below HX.out.su.bel HT.out.1)).mono ?_;rintro e w5 ⟨rfl, hb⟩;clear hHeld;replace HX := Hd (HX.out.below hb);clear t0 t1 ft0 ft1 r0 r1 r2 r3 r4 r5 r6 fr0 fr1 fr2 fr3 fr4 fr5 fr6 hrl;obtain ⟨⟨t0, t1⟩, ft0, ft1⟩ := HX.out.su.t.pair;obtain ⟨⟨r0, r1, r2, r3, r4, r5, r6⟩, fr0, fr1, fr2, fr3, fr4, fr5, fr6⟩ := HX.out.bx.seven;have hrl := HX.out.lt;clear hb;unfold rdV
        try go_wp2_with fail
        refine hK.out _ _ ⟨t0, t1⟩ (fun hHeld => ?_);clear hK K
        try simp only [Act.put, layS]
        refine rd1 7 rfl (fun K hK => ?_);have hP := HX.out.put (y' := xc) (ay' := ay) cy p4 HX.out.ks;simp only [rdL, putL, Nat.zero_add, Nat.reduceAdd] at hP;have HPP := Hd hP;clear hP;go_simp;refine hK.out _ _ HPP.out.su.t.pair.1 (fun hHeld => ?_);clear hK K hHeld;refine wpAnyH_done (by kernel_rfl) ?_ _
        try go_wp2_with fail
        go_meet;exact ⟨_, _, HPP.out⟩
     case rest =>
      clear t0 t1 ft0 ft1 r0 r1 r2 r3 r4 r5 r6 fr0 fr1 fr2 fr3 fr4 fr5 fr6 hrl;clear HX HM;obtain ⟨ay, cy, hX⟩ := hcut;have HX := Hd hX;clear hX;obtain ⟨⟨t0, t1⟩, ft0, ft1⟩ := HX.out.su.t.pair;obtain ⟨⟨r0, r1, r2, r3, r4, r5, r6⟩, fr0, fr1, fr2, fr3, fr4, fr5, fr6⟩ := HX.out.bx.seven;have hrl := HX.out.lt;go_wp2_with fail
      refine (HOP.out _ (HT.out.below HX.out.su.bel HT.out.1)).mono ?_;rintro e w7 ⟨a7, c7, rfl, hk7, hb⟩;have hk8 := hk7.mono (Q := ExP (w.heap.size + 1) rb u5) (fun b hb _ => ⟨Nat.lt_trans HX.out.gt (Nat.lt_of_lt_of_le HX.out.lt hb), by have := HX.out.lt; omega, fun e => by have := (HX.out.gr.lt b e.symm).2; omega⟩);have hk9 := hk8;replace HX := Hd (HX.out.below hb);clear t0 t1 ft0 ft1 r0 r1 r2 r3 r4 r5 r6 fr0 fr1 fr2 fr3 fr4 fr5 fr6 hrl;obtain ⟨⟨t0, t1⟩, ft0, ft1⟩ := HX.out.su.t.pair;obtain ⟨⟨r0, r1, r2, r3, r4, r5, r6⟩, fr0, fr1, fr2, fr3, fr4, fr5, fr6⟩ := HX.out.bx.seven;have hrl := HX.out.lt;clear hb hk7 hk9;have hP := HX.out.put c7 kd hk8;simp only [rdL, putL, Nat.zero_add, Nat.reduceAdd] at hP;have HPP := Hd hP;clear hP hk8;unfold rdV;go_wp2_with (at_builtin; refine wpList_app_ex _ rfl _ _ rfl (rb + 1) u5 M rfl ?hgw w7.heap.size 1 ⟨xd, a7, c7⟩ rfl ?hcm ?hbd ?hB ?_; rotate_right; intro v9 w9 hg9 hgr9 hv9; refine Hid.out ?_)
      case hgw => exact HPP.out.gr.alloc _
      case hcm => exact Bxs.made_at _ (by simp) (exL xd a7 c7) _
      case hbd =>
       have h9 := congrArg List.length HML.out;rw [List.length_map] at h9;simp only [List.length_cons, List.length_nil] at h9;omega
      case hB => have := HX.out.lt; simp; omega
      have HX9 := Hd (HPP.out.app hg9 hgr9 hv9);clear hg9 hgr9 hv9;refine Hd ?_;clear t0 t1 ft0 ft1 r0 r1 r2 r3 r4 r5 r6 fr0 fr1 fr2 fr3 fr4 fr5 fr6 hrl;go_wp2_with fail
      go_roundw
      case rel => exact .inr (.inr (.inr (.inr ⟨by first | rfl | go_num, rfl, a7, c7, M ++ [⟨xd, a7, c7⟩], by rw [List.map_append, HML.out]; rfl, HX9.out⟩)))
      case measure => first | decide | (simp [intOf] <;> omega)
    ·have HX := Hd hX;have HML := Hd hM;clear hX hM;obtain ⟨⟨t0, t1⟩, ft0, ft1⟩ := HX.out.su.t.pair;obtain ⟨⟨r0, r1, r2, r3, r4, r5, r6⟩, fr0, fr1, fr2, fr3, fr4, fr5, fr6⟩ := HX.out.bx.seven;have hrl := HX.out.lt;obtain ⟨g9, c9, rfl, hk9⟩ := HX.out.gr.four t HX.out.kd HML.out (Nat.lt_succ_of_lt HX.out.gt);obtain ⟨⟨o0, o1, o2, o3, o4, o5, o6⟩, fo0, fo1, fo2, fo3, fo4, fo5, fo6⟩ := HX.out.su.o.seven;have hD := HX.out.su.done (x := fourX t xa xb xc xd) (a := some ⟨g9, 0, none⟩) c9 kd hk9;go_wp2_with fail
     obtain ⟨hV, hK, hE⟩ := hD;obtain ⟨⟨e0, e1, e2, e3, e4, e5, e6⟩, -⟩ := hV.seven;simp only [rdL, putL, Nat.zero_add, Nat.reduceAdd, fourX, noT, Ex.k, Ex.n, Ex.s, Ex.m] at e0 e1 e2 e3 e4 e5 e6;refine bodyPost_ret (v := rdV (fourX t xa xb xc xd) (some ⟨g9, 0, none⟩) c9 kd) ?_ rfl ⟨_, _, rfl, hK, hE⟩;simp [results, Tryz.results58, go_sem, e0, e1, e2, e3, e4, e5, e6, rdV, fourX, noT, Ex.k, Ex.n, Ex.s, Ex.m]
  ·cases h
 ·cases h
end Go.Proofs.YtmlpedgcpffpnaaGreatDoor
