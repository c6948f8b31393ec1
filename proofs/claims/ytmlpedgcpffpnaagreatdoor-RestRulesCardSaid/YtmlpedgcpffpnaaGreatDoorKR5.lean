/-
  Promise P2, of rules: the reference's reader: the walk of part at min and max.
-/
import Derived.Test.YtmlpedgcpffpnaaGreatDoorKZ0
import Derived.Test.YtmlpedgcpffpnaaGreatDoorKR4
import Derived.Deep.CutRange
set_option linter.unusedSimpArgs false
set_option maxRecDepth 100000
set_option maxHeartbeats 8000000
namespace Go.Proofs.YtmlpedgcpffpnaaGreatDoor
open Go.RowKit
theorem PaB.putA {w w' : World} {g n c : Nat} {z : Int} {r : Tk} {ab : Nat} (h : PaB w w' g n c z r) (ha : w.heap.size + 1 + 1 < ab) (us : List Value) : PaB w (putL w' ab 0 us) g n c z r :=
 ⟨putL_below h.bel (by omega) us, h.t.to (putL_block ab (by omega) us 0 w'), h.o.to (putL_block ab (by omega) us 0 w'), h.k.to (putL_block ab (by omega) us 0 w'), by rw [putL_size]; exact h.lt⟩
theorem must0_ref (L : List Tk) (g n c : Nat) (z : Int) (k : Nat) (s : ByteArray) (w : World) (hT : TAt w g L) (hn : L.length = n) (hk : k <= 10000) (hs : isR L k s = true) :
 Calls Tryz.prog 57 #[tksV g n c z, .agg #[.int .i64 0, .int .i64 0, .string ⟨#[]⟩, .slice none 0 0, .int .i64 k, .int .i64 0, .int .i64 0], .string s] w fun e w' => e = .returned (.agg #[.int .i64 0, .int .i64 0, .string ⟨#[]⟩, .slice none 0 0, .int .i64 ((k + 1 : Nat) : Int), .int .i64 0, .int .i64 0]) /\ Below w.heap.size w w' :=
 must_ref L g n c z (leafX 0 0 noT) none 0 k s w hT hn hk hs
theorem part_min {s0 : ByteArray} {L T : List Tk} {g n c : Nat} {z : Int} {f : Nat} (hRK : RkL s0 L T) (hn : L.length = n) (hA : RdF 176 T L g n c z .pa f) (hE : RdF 58 T L g n c z .ex f) (k : Nat) (x : Ex) (k' : Nat) (h : prs T (f + 1) .pa k = some (x, k')) (hk : k < T.length) (w : World) (hT : TAt w g L) (c1 : ¬ kdT T k = 2) (c2 : ¬ kdT T k = 1) (c3 : ¬ isT T k [121, 101, 97, 114] = true) (c4 : ¬ isT T k [116, 97, 98, 108, 101] = true) (c5 : ¬ isT T k [45] = true) (c6 : isT T k [109, 105, 110] = true) :
 Calls Tryz.prog 176 #[tksV g n c z, .int .i64 k] w fun e w' => RdIs w (fun b => w.heap.size <= b) e w' x k' := by
 have HD := Hd c6;clear c6;have HC := Hd (And.intro c1 (And.intro c2 (And.intro c3 (And.intro c4 c5))));clear c1 c2 c3 c4 c5;have hkl : k < L.length := by
  by_cases e : k < L.length
  ·exact e
  ·have hk2 : k = L.length := by have := hRK.len; omega
   rw [prs_pa] at h;subst hk2;have he := hRK.last;have i0 : ∀ l, l ≠ [] -> isT T L.length l = false := fun l hl => by
    by_cases q : isT T L.length l = true
    ·have := hRK.ok.text hk q hl;have := hRK.len;omega
    ·simpa using q
   have j0 : kdT T L.length = 0 := by unfold kdT; rw [he]; rfl
   simp [j0, i0] at h
 have HRK := Hd hRK;have HN := Hd hn;have HA := Hd hA;have HE := Hd hE;have HT := Hd hT;have hlen := hRK.ok.long;have hTl := hRK.len;have HKD : Hid (kdT T k = (tkth L k).k) := by unfold Hid kdT; rw [hRK.at_ hkl]
 have HNM : Hid (nmT T k = (tkth L k).num) := by unfold Hid nmT; rw [hRK.at_ hkl]
 have HTX : Hid ((tkth T k).txt = (tkth L k).txt) := by unfold Hid; rw [hRK.at_ hkl]
 have HSZ := Hd (hRK.ok.size k hk);have hm := hT.2 k hkl;have HIT : Hid (∀ l b, isT T k l = b -> ((tkth L k).txt.toList == l) = b) := fun l b q => by
  have := isT_list q;rw [hRK.at_ hkl] at this;exact this
 rw [prs_pa] at h;have HH := Hd h;obtain ⟨r, hr⟩ : ∃ r, tkth L k = r := ⟨_, rfl⟩;rw [hr] at HKD HNM HTX HIT hm;rw [HTX.out] at HSZ;obtain ⟨rk, rt, rn, rp, ro⟩ := r
 dsimp only at HKD HNM HTX HIT hm HSZ
 have HBW : Hid (Below w.heap.size w ((w.alloc (.cells #[.slice (some ⟨g, 0, none⟩) n c, .int .i64 z] 118)).alloc (.cells #[.int .i64 0, .int .i64 0, .string ⟨#[]⟩, .slice none 0 0, .int .i64 0, .int .i64 0, .int .i64 0] 122))) := Hd ((kbelow_box w _).alloc (by simp) _);obtain ⟨y0, y1, y2, y3, y4⟩ := hm.below HBW.out hT.1;have HP0 := Hd (PaB.made w g n c z ⟨rk, rt, rn, rp, ro⟩ 118 122 94);have HK0 : Hid (rk ≠ 0) := by
  have h9 := toks_good hRK.sz hRK.tk _ (tkth_mem hkl);rw [hr] at h9;have := h9.k;unfold Hid;intro e
  dsimp only at this
  omega
 have hk' : (k : Int) < (n : Int) := by omega
 have hk'' : ¬ (n : Int) <= (k : Int) := by omega
 obtain ⟨k1, hk1⟩ : ∃ k1, k1 = k + 1 := ⟨_, rfl⟩;obtain ⟨k2, hk2⟩ : ∃ k2, k2 = k + 2 := ⟨_, rfl⟩;obtain ⟨k3, hk3⟩ : ∃ k3, k3 = k + 3 := ⟨_, rfl⟩;have w1 : IntKind.i64.wrap ((k : Int) + 1) = (k1 : Int) := by rw [IntWalk.i64_in _ (by omega)]; omega
 have w2 : IntKind.i64.wrap ((k : Int) + 2) = (k2 : Int) := by rw [IntWalk.i64_in _ (by omega)]; omega
 have w3 : IntKind.i64.wrap ((k : Int) + 3) = (k3 : Int) := by rw [IntWalk.i64_in _ (by omega)]; omega
 rw [<- hk1, <- hk2, <- hk3] at HH;have HK := Hd (And.intro hk1 (And.intro hk2 hk3));have HKL := Hd (And.intro hk (And.intro hkl hTl));clear h hRK hn hA hE hT hm hr hk hkl hlen hTl hk1 hk2 hk3 HBW;unfold tksV;rw [if_neg HC.out.1, if_neg HC.out.2.1, if_neg HC.out.2.2.1, if_neg HC.out.2.2.2.1, if_neg HC.out.2.2.2.2] at HH;have hkk : (rk == 2) = false := by have c1 := HC.out.1; rw [HKD.out] at c1; simp [c1]
 have hkk1 : (rk == 1) = false := by have c2 := HC.out.2.1; rw [HKD.out] at c2; simp [c2]
 have n3 := HIT.out _ _ (isT_false HC.out.2.2.1);have n4 := HIT.out _ _ (isT_false HC.out.2.2.2.1);have n5 := HIT.out _ _ (isT_false HC.out.2.2.2.2);have c6 := HD.out;have h := HH.out;rw [if_pos c6] at h;have ht := HIT.out _ _ c6;have n6 : (rt.toList == [40]) = false := by rw [beq_iff_eq] at ht; rw [ht]; rfl
 have n7 : (rt.toList == [109, 97, 120]) = false := by rw [beq_iff_eq] at ht; rw [ht]; rfl
 split at h
 ·rename_i d1
  obtain ⟨⟨xa, ka⟩, h5, h⟩ := Option.bind_eq_some_iff.1 h
  dsimp only at h
  split at h
  ·rename_i d2
   obtain ⟨⟨xb, kb⟩, h6, h⟩ := Option.bind_eq_some_iff.1 h
   dsimp only at h
   split at h
   ·rename_i d3
    have hk1 : k1 < T.length := by have := HRK.out.ok.text HKL.out.1 c6 (by simp); have := HK.out; omega
    have hk2 : k2 < T.length := by have := HRK.out.ok.text hk1 d1 (by simp); have := HK.out; omega
    have hpa := prs_ok HRK.out.ok _ _ _ _ _ rfl hk2 h5;have hkc : ka + 1 < T.length := HRK.out.ok.text hpa.lt d2 (by simp);have hpb := prs_ok HRK.out.ok _ _ _ _ _ rfl hkc h6;have hi1 := isR_yes HRK.out hk1 d1 (by decide +kernel) (by decide);have hi2 := isR_yes HRK.out hpa.lt d2 (by decide +kernel) (by decide);have hi3 := isR_yes HRK.out hpb.lt d3 (by decide +kernel) (by decide);have HOA := Hd (HE.out k2 xa ka h5 hk2);have HOB := Hd (HE.out (ka + 1) xb kb h6 hkc);have hlong := HRK.out.ok.long;have hb1 : k1 <= 10000 := by omega
    have hb2 : ka <= 10000 := by omega
    have hb3 : kb <= 10000 := by have := hpb.lt; omega
    obtain ⟨kc, hkc'⟩ : ∃ kc, kc = ka + 1 := ⟨_, rfl⟩;obtain ⟨kd, hkd'⟩ : ∃ kd, kd = kb + 1 := ⟨_, rfl⟩;injection h with h
    injection h with e1 e2
    subst e1 e2;rw [<- hkd'];rw [<- hkc'] at HOB;have HKC := Hd (And.intro hkc' hkd');have HM1 := Hd (fun W hW => must0_ref L g n c z k1 ⟨#[40]⟩ W hW HN.out hb1 hi1);rw [show k1 + 1 = k2 by have := HK.out; omega] at HM1;have HM2 := Hd (fun W a5 c5 hW => must_ref L g n c z xa a5 c5 ka ⟨#[44]⟩ W hW HN.out hb2 hi2);rw [<- hkc'] at HM2;have HM3 := Hd (fun W a5 c5 hW => must_ref L g n c z xb a5 c5 kb ⟨#[41]⟩ W hW HN.out hb3 hi3);rw [<- hkd'] at HM3;clear c6 d1 d2 d3 h5 h6 HA HE HH hpa hpb hk1 hk2 hkc hlong hb1 hb2 hb3 hkc' hkd' hi1 hi2 hi3
    go_enter Tryz.func176, Tryz.ntmps176
    go_wp2_with fail
    refine (HM1.out _ (HT.out.below HP0.out.bel HT.out.1)).mono ?_;rintro e w4 ⟨rfl, hb⟩;have HP4 := Hd (HP0.out.below hb);have hbx := kbelow_box w4 (.cells #[.int .i64 0, .int .i64 0, .string ⟨#[]⟩, .slice none 0 0, .int .i64 k2, .int .i64 0, .int .i64 0] 122);have HPV := Hd (HP4.out.below hbx);have HAV := Hd (Bxs.made w4 [.int .i64 0, .int .i64 0, .string ⟨#[]⟩, .slice none 0 0, .int .i64 k2, .int .i64 0, .int .i64 0] 122);have HLV : Hid (w.heap.size + 1 + 1 < w4.heap.size /\ w4.heap.size < (w4.alloc (.cells #[.int .i64 0, .int .i64 0, .string ⟨#[]⟩, .slice none 0 0, .int .i64 k2, .int .i64 0, .int .i64 0] 122)).heap.size) := Hd ⟨HP4.out.lt, by simp⟩;have HTV := Hd (HT.out.below HPV.out.bel HT.out.1);clear hb hbx;go_wp2_with fail
    generalize (w4.alloc (.cells #[.int .i64 0, .int .i64 0, .string ⟨#[]⟩, .slice none 0 0, .int .i64 k2, .int .i64 0, .int .i64 0] 122)) = v4 at HPV HAV HLV HTV ⊢;generalize w4.heap.size = ab at HAV HLV ⊢;clear HP4;obtain ⟨⟨t0, t1⟩, ft0, ft1⟩ := HPV.out.t.pair;have r4 := HAV.out.at_ 4 rfl
    go_cut [] from 180 to 185 (fun wx => ∃ (a5 : Option Addr) (c5 : Nat), PaB w wx g n c z ⟨rk, rt, rn, rp, ro⟩ /\ Bxs wx ab (rdL xa a5 c5 kc) /\ KidsP wx (fun b => ab < b) xa a5 /\ ab < wx.heap.size)
    case first =>
     go_region_with (first
      | (go_at_call 58; refine (HOA.out _ (HTV.out.below (kbelow_dN (Below.refl _ _) _) HTV.out.1)).mono ?_
         rintro e w5 ⟨a5, c5, rfl, hk5, hb⟩;have HB5 := Hd (Below.trans (kbelow_dN (Below.refl v4.heap.size v4) 1) hb);have HP5 := Hd (HPV.out.below HB5.out);have HA5 := Hd (HAV.out.below HB5.out HLV.out.2);have HK5 := Hd (hk5.mono (Q := fun b => ab < b) (fun b hb _ => Nat.lt_of_lt_of_le HLV.out.2 hb));have HT5 := Hd (HTV.out.below HB5.out HTV.out.1);have HL5 := Hd (Nat.lt_of_lt_of_le HLV.out.2 HB5.out.size);clear hb hk5 r4 t0 t1 ft0 ft1;obtain ⟨⟨t0, t1⟩, ft0, ft1⟩ := HP5.out.t.pair)
      | (go_at_call 57; refine (HM2.out _ a5 c5 HT5.out).mono ?_
         rintro e w6 ⟨rfl, hb⟩;have HP6 := Hd (HP5.out.below hb);have HA6 := Hd (HA5.out.below hb HL5.out);have HK6 := Hd (HK5.out.below hb);have HL6 := Hd (Nat.lt_of_lt_of_le HL5.out hb.size);clear hb t0 t1 ft0 ft1;obtain ⟨⟨r0, r1, r2, r3, r4, r5, r6⟩, fr0, fr1, fr2, fr3, fr4, fr5, fr6⟩ := HA6.out.seven;unfold rdV))
     all_goals
      have hV := HA6.out.put (rdL xa a5 c5 kc) rfl;have hK := HK6.out.put (c := ab) (fun b hb => by omega) 0 (rdL xa a5 c5 kc);have hP := HP6.out.putA (ab := ab) HLV.out.1 (rdL xa a5 c5 kc);have hZ := putL_size ab (rdL xa a5 c5 kc) 0 w6;simp only [rdL, putL, Nat.zero_add, Nat.reduceAdd] at hV hK hP hZ
      try go_wp2_with fail
      go_meet;exact ⟨a5, c5, hP, hV, hK, by rw [hZ]; exact HL6.out⟩
    case rest =>
     clear HPV HAV HTV t0 t1 ft0 ft1 r4 HM1 HM2 HOA;obtain ⟨a5, c5, hp, ha, hk5, hl⟩ := hcut;have HPV := Hd hp;have HAV := Hd ha;have HKV := Hd hk5;have HTV := Hd (HT.out.below HPV.out.bel HT.out.1);have HLC := Hd hl;clear hp ha hk5 hl;obtain ⟨⟨t0, t1⟩, ft0, ft1⟩ := HPV.out.t.pair;obtain ⟨⟨r0, r1, r2, r3, r4, r5, r6⟩, fr0, fr1, fr2, fr3, fr4, fr5, fr6⟩ := HAV.out.seven;have hne : ab ≠ w.heap.size + 1 := by have := HLV.out.1; omega
     have hne' : w.heap.size + 1 ≠ ab := by omega
     go_wp2_with fail
     go_region_held (fun w' => (w'.cell? ⟨w.heap.size, 0, none⟩ = some (.slice (some ⟨g, 0, none⟩) n c) /\ w'.cell? ⟨w.heap.size, 1, none⟩ = some (.int .i64 z)) /\ w'.cell? ⟨ab, 0, none⟩ = some (.int .i64 xa.k) /\ w'.cell? ⟨ab, 1, none⟩ = some (.int .i64 xa.n) /\ w'.cell? ⟨ab, 2, none⟩ = some (.string xa.s) /\ w'.cell? ⟨ab, 3, none⟩ = some (.slice a5 xa.m c5) /\ w'.cell? ⟨ab, 4, none⟩ = some (.int .i64 (kc : Int)) /\ w'.cell? ⟨ab, 5, none⟩ = some (.int .i64 0) /\ w'.cell? ⟨ab, 6, none⟩ = some (.int .i64 0)) (go_keep)
      (first
       | (go_at_call 58; refine (HOB.out _ (HTV.out.below (kbelow_dN (Below.refl _ _) _) HTV.out.1)).mono ?_
          rintro e w7 ⟨a7, c7, rfl, hk7, hb⟩;have HB7 := Hd (Below.trans (kbelow_dN (Below.refl _ _) 1) hb);have HP7 := Hd (HPV.out.below HB7.out);have HA7 := Hd (HAV.out.below HB7.out HLC.out);have HX7 := Hd (HKV.out.below HB7.out);have HY7 := Hd (hk7.mono (Q := fun b => ab < b) (fun b hb _ => Nat.lt_of_lt_of_le HLC.out hb));have HT7 := Hd (HTV.out.below HB7.out HTV.out.1);have HL7 := Hd (Nat.lt_of_lt_of_le HLC.out HB7.out.size);clear hb hk7 r0 r1 r2 r3 r4 r5 r6 fr0 fr1 fr2 fr3 fr4 fr5 fr6 t0 t1 ft0 ft1;obtain ⟨⟨t0, t1⟩, ft0, ft1⟩ := HP7.out.t.pair;obtain ⟨⟨r0, r1, r2, r3, r4, r5, r6⟩, fr0, fr1, fr2, fr3, fr4, fr5, fr6⟩ := HA7.out.seven)
       | (go_at_call 57; refine (HM3.out _ a7 c7 HT7.out).mono ?_
          rintro e w8 ⟨rfl, hb⟩;have HP8 := Hd (HP7.out.below hb);have HA8 := Hd (HA7.out.below hb HL7.out);have HX8 := Hd (HX7.out.below hb);have HY8 := Hd (HY7.out.below hb);have HL8 := Hd (Nat.lt_of_lt_of_le HL7.out hb.size);clear hb r0 r1 r2 r3 r4 r5 r6 fr0 fr1 fr2 fr3 fr4 fr5 fr6 t0 t1 ft0 ft1;obtain ⟨⟨t0, t1⟩, ft0, ft1⟩ := HP8.out.t.pair;obtain ⟨⟨r0, r1, r2, r3, r4, r5, r6⟩, fr0, fr1, fr2, fr3, fr4, fr5, fr6⟩ := HA8.out.seven)
       | (go_at_call 147; refine (two_ref g n c z 11 xa xb a5 a7 c5 c7 kc kd _ (fun b => w.heap.size + 1 + 1 < b) (fun b hb => Nat.lt_of_lt_of_le HP8.out.lt hb) (HX8.out.mono fun b hb _ => Nat.lt_trans HLV.out.1 hb) (HY8.out.mono fun b hb _ => Nat.lt_trans HLV.out.1 hb)).mono ?_
          rintro e w9 ⟨a9, c9, rfl, hk9, hb⟩;have HP9 := Hd (HP8.out.below hb);have HA9 := Hd (HA8.out.below hb HL8.out);have HK9 := Hd hk9;clear hb hk9 r0 r1 r2 r3 r4 r5 r6 fr0 fr1 fr2 fr3 fr4 fr5 fr6 t0 t1 ft0 ft1;obtain ⟨⟨r0, r1, r2, r3, r4, r5, r6⟩, fr0, fr1, fr2, fr3, fr4, fr5, fr6⟩ := HA9.out.seven;obtain ⟨⟨t0, t1⟩, ft0, ft1⟩ := HP9.out.t.pair;obtain ⟨⟨o0, o1, o2, o3, o4, o5, o6⟩, fo0, fo1, fo2, fo3, fo4, fo5, fo6⟩ := HP9.out.o.seven;obtain ⟨⟨q0, q1, q2, q3, q4⟩, fq0, fq1, fq2, fq3, fq4⟩ := HP9.out.k.five;unfold rdV))
     go_wp2_with fail
     have hD := HP9.out.done (x := twoX 11 xa xb) (a := a9) c9 kd (HK9.out);obtain ⟨hV, hK, hE⟩ := hD;obtain ⟨⟨e0, e1, e2, e3, e4, e5, e6⟩, -⟩ := hV.seven;simp only [rdL, putL, Nat.zero_add, Nat.reduceAdd, leafX, oneX, twoX, noT, Ex.k, Ex.n, Ex.s, Ex.m] at e0 e1 e2 e3 e4 e5 e6;refine bodyPost_ret (v := rdV (twoX 11 xa xb) (a9) c9 kd) ?_ rfl ⟨_, _, rfl, hK, hE⟩;simp [results, Tryz.results176, go_sem, e0, e1, e2, e3, e4, e5, e6, rdV, leafX, oneX, twoX, noT, Ex.k, Ex.n, Ex.s, Ex.m]
   ·cases h
  ·cases h
 ·cases h
theorem part_max {s0 : ByteArray} {L T : List Tk} {g n c : Nat} {z : Int} {f : Nat} (hRK : RkL s0 L T) (hn : L.length = n) (hA : RdF 176 T L g n c z .pa f) (hE : RdF 58 T L g n c z .ex f) (k : Nat) (x : Ex) (k' : Nat) (h : prs T (f + 1) .pa k = some (x, k')) (hk : k < T.length) (w : World) (hT : TAt w g L) (c1 : ¬ kdT T k = 2) (c2 : ¬ kdT T k = 1) (c3 : ¬ isT T k [121, 101, 97, 114] = true) (c4 : ¬ isT T k [116, 97, 98, 108, 101] = true) (c5 : ¬ isT T k [45] = true) (c6 : ¬ isT T k [109, 105, 110] = true) (c7 : isT T k [109, 97, 120] = true) :
 Calls Tryz.prog 176 #[tksV g n c z, .int .i64 k] w fun e w' => RdIs w (fun b => w.heap.size <= b) e w' x k' := by
 have HD := Hd (And.intro c6 c7);clear c6 c7;have HC := Hd (And.intro c1 (And.intro c2 (And.intro c3 (And.intro c4 c5))));clear c1 c2 c3 c4 c5;have hkl : k < L.length := by
  by_cases e : k < L.length
  ·exact e
  ·have hk2 : k = L.length := by have := hRK.len; omega
   rw [prs_pa] at h;subst hk2;have he := hRK.last;have i0 : ∀ l, l ≠ [] -> isT T L.length l = false := fun l hl => by
    by_cases q : isT T L.length l = true
    ·have := hRK.ok.text hk q hl;have := hRK.len;omega
    ·simpa using q
   have j0 : kdT T L.length = 0 := by unfold kdT; rw [he]; rfl
   simp [j0, i0] at h
 have HRK := Hd hRK;have HN := Hd hn;have HA := Hd hA;have HE := Hd hE;have HT := Hd hT;have hlen := hRK.ok.long;have hTl := hRK.len;have HKD : Hid (kdT T k = (tkth L k).k) := by unfold Hid kdT; rw [hRK.at_ hkl]
 have HNM : Hid (nmT T k = (tkth L k).num) := by unfold Hid nmT; rw [hRK.at_ hkl]
 have HTX : Hid ((tkth T k).txt = (tkth L k).txt) := by unfold Hid; rw [hRK.at_ hkl]
 have HSZ := Hd (hRK.ok.size k hk);have hm := hT.2 k hkl;have HIT : Hid (∀ l b, isT T k l = b -> ((tkth L k).txt.toList == l) = b) := fun l b q => by
  have := isT_list q;rw [hRK.at_ hkl] at this;exact this
 rw [prs_pa] at h;have HH := Hd h;obtain ⟨r, hr⟩ : ∃ r, tkth L k = r := ⟨_, rfl⟩;rw [hr] at HKD HNM HTX HIT hm;rw [HTX.out] at HSZ;obtain ⟨rk, rt, rn, rp, ro⟩ := r
 dsimp only at HKD HNM HTX HIT hm HSZ
 have HBW : Hid (Below w.heap.size w ((w.alloc (.cells #[.slice (some ⟨g, 0, none⟩) n c, .int .i64 z] 118)).alloc (.cells #[.int .i64 0, .int .i64 0, .string ⟨#[]⟩, .slice none 0 0, .int .i64 0, .int .i64 0, .int .i64 0] 122))) := Hd ((kbelow_box w _).alloc (by simp) _);obtain ⟨y0, y1, y2, y3, y4⟩ := hm.below HBW.out hT.1;have HP0 := Hd (PaB.made w g n c z ⟨rk, rt, rn, rp, ro⟩ 118 122 94);have HK0 : Hid (rk ≠ 0) := by
  have h9 := toks_good hRK.sz hRK.tk _ (tkth_mem hkl);rw [hr] at h9;have := h9.k;unfold Hid;intro e
  dsimp only at this
  omega
 have hk' : (k : Int) < (n : Int) := by omega
 have hk'' : ¬ (n : Int) <= (k : Int) := by omega
 obtain ⟨k1, hk1⟩ : ∃ k1, k1 = k + 1 := ⟨_, rfl⟩;obtain ⟨k2, hk2⟩ : ∃ k2, k2 = k + 2 := ⟨_, rfl⟩;obtain ⟨k3, hk3⟩ : ∃ k3, k3 = k + 3 := ⟨_, rfl⟩;have w1 : IntKind.i64.wrap ((k : Int) + 1) = (k1 : Int) := by rw [IntWalk.i64_in _ (by omega)]; omega
 have w2 : IntKind.i64.wrap ((k : Int) + 2) = (k2 : Int) := by rw [IntWalk.i64_in _ (by omega)]; omega
 have w3 : IntKind.i64.wrap ((k : Int) + 3) = (k3 : Int) := by rw [IntWalk.i64_in _ (by omega)]; omega
 rw [<- hk1, <- hk2, <- hk3] at HH;have HK := Hd (And.intro hk1 (And.intro hk2 hk3));have HKL := Hd (And.intro hk (And.intro hkl hTl));clear h hRK hn hA hE hT hm hr hk hkl hlen hTl hk1 hk2 hk3 HBW;unfold tksV;rw [if_neg HC.out.1, if_neg HC.out.2.1, if_neg HC.out.2.2.1, if_neg HC.out.2.2.2.1, if_neg HC.out.2.2.2.2] at HH;have hkk : (rk == 2) = false := by have c1 := HC.out.1; rw [HKD.out] at c1; simp [c1]
 have hkk1 : (rk == 1) = false := by have c2 := HC.out.2.1; rw [HKD.out] at c2; simp [c2]
 have n3 := HIT.out _ _ (isT_false HC.out.2.2.1);have n4 := HIT.out _ _ (isT_false HC.out.2.2.2.1);have n5 := HIT.out _ _ (isT_false HC.out.2.2.2.2);have c6 := HD.out.2;have h := HH.out;rw [if_neg HD.out.1, if_pos c6] at h;have ht := HIT.out _ _ c6;have n6 : (rt.toList == [40]) = false := by rw [beq_iff_eq] at ht; rw [ht]; rfl
 have n7 := HIT.out _ _ (isT_false HD.out.1)
 split at h
 ·rename_i d1
  obtain ⟨⟨xa, ka⟩, h5, h⟩ := Option.bind_eq_some_iff.1 h
  dsimp only at h
  split at h
  ·rename_i d2
   obtain ⟨⟨xb, kb⟩, h6, h⟩ := Option.bind_eq_some_iff.1 h
   dsimp only at h
   split at h
   ·rename_i d3
    have hk1 : k1 < T.length := by have := HRK.out.ok.text HKL.out.1 c6 (by simp); have := HK.out; omega
    have hk2 : k2 < T.length := by have := HRK.out.ok.text hk1 d1 (by simp); have := HK.out; omega
    have hpa := prs_ok HRK.out.ok _ _ _ _ _ rfl hk2 h5;have hkc : ka + 1 < T.length := HRK.out.ok.text hpa.lt d2 (by simp);have hpb := prs_ok HRK.out.ok _ _ _ _ _ rfl hkc h6;have hi1 := isR_yes HRK.out hk1 d1 (by decide +kernel) (by decide);have hi2 := isR_yes HRK.out hpa.lt d2 (by decide +kernel) (by decide);have hi3 := isR_yes HRK.out hpb.lt d3 (by decide +kernel) (by decide);have HOA := Hd (HE.out k2 xa ka h5 hk2);have HOB := Hd (HE.out (ka + 1) xb kb h6 hkc);have hlong := HRK.out.ok.long;have hb1 : k1 <= 10000 := by omega
    have hb2 : ka <= 10000 := by omega
    have hb3 : kb <= 10000 := by have := hpb.lt; omega
    obtain ⟨kc, hkc'⟩ : ∃ kc, kc = ka + 1 := ⟨_, rfl⟩;obtain ⟨kd, hkd'⟩ : ∃ kd, kd = kb + 1 := ⟨_, rfl⟩;injection h with h
    injection h with e1 e2
    subst e1 e2;rw [<- hkd'];rw [<- hkc'] at HOB;have HKC := Hd (And.intro hkc' hkd');have HM1 := Hd (fun W hW => must0_ref L g n c z k1 ⟨#[40]⟩ W hW HN.out hb1 hi1);rw [show k1 + 1 = k2 by have := HK.out; omega] at HM1;have HM2 := Hd (fun W a5 c5 hW => must_ref L g n c z xa a5 c5 ka ⟨#[44]⟩ W hW HN.out hb2 hi2);rw [<- hkc'] at HM2;have HM3 := Hd (fun W a5 c5 hW => must_ref L g n c z xb a5 c5 kb ⟨#[41]⟩ W hW HN.out hb3 hi3);rw [<- hkd'] at HM3;clear c6 d1 d2 d3 h5 h6 HA HE HH hpa hpb hk1 hk2 hkc hlong hb1 hb2 hb3 hkc' hkd' hi1 hi2 hi3
    go_enter Tryz.func176, Tryz.ntmps176
    go_wp2_with fail
    refine (HM1.out _ (HT.out.below HP0.out.bel HT.out.1)).mono ?_;rintro e w4 ⟨rfl, hb⟩;have HP4 := Hd (HP0.out.below hb);have hbx := kbelow_box w4 (.cells #[.int .i64 0, .int .i64 0, .string ⟨#[]⟩, .slice none 0 0, .int .i64 k2, .int .i64 0, .int .i64 0] 122);have HPV := Hd (HP4.out.below hbx);have HAV := Hd (Bxs.made w4 [.int .i64 0, .int .i64 0, .string ⟨#[]⟩, .slice none 0 0, .int .i64 k2, .int .i64 0, .int .i64 0] 122);have HLV : Hid (w.heap.size + 1 + 1 < w4.heap.size /\ w4.heap.size < (w4.alloc (.cells #[.int .i64 0, .int .i64 0, .string ⟨#[]⟩, .slice none 0 0, .int .i64 k2, .int .i64 0, .int .i64 0] 122)).heap.size) := Hd ⟨HP4.out.lt, by simp⟩;have HTV := Hd (HT.out.below HPV.out.bel HT.out.1);clear hb hbx;go_wp2_with fail
    generalize (w4.alloc (.cells #[.int .i64 0, .int .i64 0, .string ⟨#[]⟩, .slice none 0 0, .int .i64 k2, .int .i64 0, .int .i64 0] 122)) = v4 at HPV HAV HLV HTV ⊢;generalize w4.heap.size = ab at HAV HLV ⊢;clear HP4;obtain ⟨⟨t0, t1⟩, ft0, ft1⟩ := HPV.out.t.pair;have r4 := HAV.out.at_ 4 rfl
    go_cut [] from 180 to 185 (fun wx => ∃ (a5 : Option Addr) (c5 : Nat), PaB w wx g n c z ⟨rk, rt, rn, rp, ro⟩ /\ Bxs wx ab (rdL xa a5 c5 kc) /\ KidsP wx (fun b => ab < b) xa a5 /\ ab < wx.heap.size)
    case first =>
     go_region_with (first
      | (go_at_call 58; refine (HOA.out _ (HTV.out.below (kbelow_dN (Below.refl _ _) _) HTV.out.1)).mono ?_
         rintro e w5 ⟨a5, c5, rfl, hk5, hb⟩;have HB5 := Hd (Below.trans (kbelow_dN (Below.refl v4.heap.size v4) 1) hb);have HP5 := Hd (HPV.out.below HB5.out);have HA5 := Hd (HAV.out.below HB5.out HLV.out.2);have HK5 := Hd (hk5.mono (Q := fun b => ab < b) (fun b hb _ => Nat.lt_of_lt_of_le HLV.out.2 hb));have HT5 := Hd (HTV.out.below HB5.out HTV.out.1);have HL5 := Hd (Nat.lt_of_lt_of_le HLV.out.2 HB5.out.size);clear hb hk5 r4 t0 t1 ft0 ft1;obtain ⟨⟨t0, t1⟩, ft0, ft1⟩ := HP5.out.t.pair)
      | (go_at_call 57; refine (HM2.out _ a5 c5 HT5.out).mono ?_
         rintro e w6 ⟨rfl, hb⟩;have HP6 := Hd (HP5.out.below hb);have HA6 := Hd (HA5.out.below hb HL5.out);have HK6 := Hd (HK5.out.below hb);have HL6 := Hd (Nat.lt_of_lt_of_le HL5.out hb.size);clear hb t0 t1 ft0 ft1;obtain ⟨⟨r0, r1, r2, r3, r4, r5, r6⟩, fr0, fr1, fr2, fr3, fr4, fr5, fr6⟩ := HA6.out.seven;unfold rdV))
     all_goals
      have hV := HA6.out.put (rdL xa a5 c5 kc) rfl;have hK := HK6.out.put (c := ab) (fun b hb => by omega) 0 (rdL xa a5 c5 kc);have hP := HP6.out.putA (ab := ab) HLV.out.1 (rdL xa a5 c5 kc);have hZ := putL_size ab (rdL xa a5 c5 kc) 0 w6;simp only [rdL, putL, Nat.zero_add, Nat.reduceAdd] at hV hK hP hZ
      try go_wp2_with fail
      go_meet;exact ⟨a5, c5, hP, hV, hK, by rw [hZ]; exact HL6.out⟩
    case rest =>
     clear HPV HAV HTV t0 t1 ft0 ft1 r4 HM1 HM2 HOA;obtain ⟨a5, c5, hp, ha, hk5, hl⟩ := hcut;have HPV := Hd hp;have HAV := Hd ha;have HKV := Hd hk5;have HTV := Hd (HT.out.below HPV.out.bel HT.out.1);have HLC := Hd hl;clear hp ha hk5 hl;obtain ⟨⟨t0, t1⟩, ft0, ft1⟩ := HPV.out.t.pair;obtain ⟨⟨r0, r1, r2, r3, r4, r5, r6⟩, fr0, fr1, fr2, fr3, fr4, fr5, fr6⟩ := HAV.out.seven;have hne : ab ≠ w.heap.size + 1 := by have := HLV.out.1; omega
     have hne' : w.heap.size + 1 ≠ ab := by omega
     go_wp2_with fail
     go_region_held (fun w' => (w'.cell? ⟨w.heap.size, 0, none⟩ = some (.slice (some ⟨g, 0, none⟩) n c) /\ w'.cell? ⟨w.heap.size, 1, none⟩ = some (.int .i64 z)) /\ w'.cell? ⟨ab, 0, none⟩ = some (.int .i64 xa.k) /\ w'.cell? ⟨ab, 1, none⟩ = some (.int .i64 xa.n) /\ w'.cell? ⟨ab, 2, none⟩ = some (.string xa.s) /\ w'.cell? ⟨ab, 3, none⟩ = some (.slice a5 xa.m c5) /\ w'.cell? ⟨ab, 4, none⟩ = some (.int .i64 (kc : Int)) /\ w'.cell? ⟨ab, 5, none⟩ = some (.int .i64 0) /\ w'.cell? ⟨ab, 6, none⟩ = some (.int .i64 0)) (go_keep)
      (first
       | (go_at_call 58; refine (HOB.out _ (HTV.out.below (kbelow_dN (Below.refl _ _) _) HTV.out.1)).mono ?_
          rintro e w7 ⟨a7, c7, rfl, hk7, hb⟩;have HB7 := Hd (Below.trans (kbelow_dN (Below.refl _ _) 1) hb);have HP7 := Hd (HPV.out.below HB7.out);have HA7 := Hd (HAV.out.below HB7.out HLC.out);have HX7 := Hd (HKV.out.below HB7.out);have HY7 := Hd (hk7.mono (Q := fun b => ab < b) (fun b hb _ => Nat.lt_of_lt_of_le HLC.out hb));have HT7 := Hd (HTV.out.below HB7.out HTV.out.1);have HL7 := Hd (Nat.lt_of_lt_of_le HLC.out HB7.out.size);clear hb hk7 r0 r1 r2 r3 r4 r5 r6 fr0 fr1 fr2 fr3 fr4 fr5 fr6 t0 t1 ft0 ft1;obtain ⟨⟨t0, t1⟩, ft0, ft1⟩ := HP7.out.t.pair;obtain ⟨⟨r0, r1, r2, r3, r4, r5, r6⟩, fr0, fr1, fr2, fr3, fr4, fr5, fr6⟩ := HA7.out.seven)
       | (go_at_call 57; refine (HM3.out _ a7 c7 HT7.out).mono ?_
          rintro e w8 ⟨rfl, hb⟩;have HP8 := Hd (HP7.out.below hb);have HA8 := Hd (HA7.out.below hb HL7.out);have HX8 := Hd (HX7.out.below hb);have HY8 := Hd (HY7.out.below hb);have HL8 := Hd (Nat.lt_of_lt_of_le HL7.out hb.size);clear hb r0 r1 r2 r3 r4 r5 r6 fr0 fr1 fr2 fr3 fr4 fr5 fr6 t0 t1 ft0 ft1;obtain ⟨⟨t0, t1⟩, ft0, ft1⟩ := HP8.out.t.pair;obtain ⟨⟨r0, r1, r2, r3, r4, r5, r6⟩, fr0, fr1, fr2, fr3, fr4, fr5, fr6⟩ := HA8.out.seven)
       | (go_at_call 147; refine (two_ref g n c z 12 xa xb a5 a7 c5 c7 kc kd _ (fun b => w.heap.size + 1 + 1 < b) (fun b hb => Nat.lt_of_lt_of_le HP8.out.lt hb) (HX8.out.mono fun b hb _ => Nat.lt_trans HLV.out.1 hb) (HY8.out.mono fun b hb _ => Nat.lt_trans HLV.out.1 hb)).mono ?_
          rintro e w9 ⟨a9, c9, rfl, hk9, hb⟩;have HP9 := Hd (HP8.out.below hb);have HA9 := Hd (HA8.out.below hb HL8.out);have HK9 := Hd hk9;clear hb hk9 r0 r1 r2 r3 r4 r5 r6 fr0 fr1 fr2 fr3 fr4 fr5 fr6 t0 t1 ft0 ft1;obtain ⟨⟨r0, r1, r2, r3, r4, r5, r6⟩, fr0, fr1, fr2, fr3, fr4, fr5, fr6⟩ := HA9.out.seven;obtain ⟨⟨t0, t1⟩, ft0, ft1⟩ := HP9.out.t.pair;obtain ⟨⟨o0, o1, o2, o3, o4, o5, o6⟩, fo0, fo1, fo2, fo3, fo4, fo5, fo6⟩ := HP9.out.o.seven;obtain ⟨⟨q0, q1, q2, q3, q4⟩, fq0, fq1, fq2, fq3, fq4⟩ := HP9.out.k.five;unfold rdV))
     go_wp2_with fail
     have hD := HP9.out.done (x := twoX 12 xa xb) (a := a9) c9 kd (HK9.out);obtain ⟨hV, hK, hE⟩ := hD;obtain ⟨⟨e0, e1, e2, e3, e4, e5, e6⟩, -⟩ := hV.seven;simp only [rdL, putL, Nat.zero_add, Nat.reduceAdd, leafX, oneX, twoX, noT, Ex.k, Ex.n, Ex.s, Ex.m] at e0 e1 e2 e3 e4 e5 e6;refine bodyPost_ret (v := rdV (twoX 12 xa xb) (a9) c9 kd) ?_ rfl ⟨_, _, rfl, hK, hE⟩;simp [results, Tryz.results176, go_sem, e0, e1, e2, e3, e4, e5, e6, rdV, leafX, oneX, twoX, noT, Ex.k, Ex.n, Ex.s, Ex.m]
   ·cases h
  ·cases h
 ·cases h
theorem part_ref {s0 : ByteArray} {L T : List Tk} {g n c : Nat} {z : Int} {f : Nat} (hRK : RkL s0 L T) (hn : L.length = n) (hA : RdF 176 T L g n c z .pa f) (hE : RdF 58 T L g n c z .ex f) : RdF 176 T L g n c z .pa (f + 1) := by
 intro k x k' h hk w hT
 by_cases c1 : kdT T k = 2
 ·exact part_a hRK hn hA hE k x k' h hk w hT c1
 by_cases c2 : kdT T k = 1
 ·exact part_b hRK hn hA hE k x k' h hk w hT c1 (.inl c2)
 by_cases c3 : isT T k [121, 101, 97, 114] = true
 ·exact part_b hRK hn hA hE k x k' h hk w hT c1 (.inr (.inl c3))
 by_cases c4 : isT T k [116, 97, 98, 108, 101] = true
 ·exact part_b hRK hn hA hE k x k' h hk w hT c1 (.inr (.inr (.inl c4)))
 by_cases c5 : isT T k [45] = true
 ·exact part_b hRK hn hA hE k x k' h hk w hT c1 (.inr (.inr (.inr c5)))
 by_cases c6 : isT T k [109, 105, 110] = true
 ·exact part_min hRK hn hA hE k x k' h hk w hT c1 c2 c3 c4 c5 c6
 by_cases c7 : isT T k [109, 97, 120] = true
 ·exact part_max hRK hn hA hE k x k' h hk w hT c1 c2 c3 c4 c5 c6 c7
 by_cases c8 : isT T k [40] = true
 ·exact part_c hRK hn hA hE k x k' h hk w hT c1 c2 c3 c4 c5 c6 c7 c8
 ·rw [prs_pa, if_neg c1, if_neg c2, if_neg c3, if_neg c4, if_neg c5, if_neg c6, if_neg c7, if_neg c8] at h
  cases h
end Go.Proofs.YtmlpedgcpffpnaaGreatDoor
