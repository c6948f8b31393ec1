/-
  Promise P2, of rules: the reference's Tokens: the switch where a number stands.
-/
import Derived.Test.YtmlpedgcpffpnaaGreatDoorKZ0
import Derived.Test.YtmlpedgcpffpnaaGreatDoorKR1
set_option linter.unusedSimpArgs false
set_option maxRecDepth 100000
set_option maxHeartbeats 8000000
namespace Go.Proofs.YtmlpedgcpffpnaaGreatDoor
open Go.RowKit
set_option linter.unusedVariables false
theorem sw_num {Q : Exit -> Act -> World -> Prop} (s : ByteArray) (a n : Nat) (k v : Int) (p : Bool) (L : List Tk) (w wr : World) (hsz : s.size <= 4000) (hlt : a < s.size) (HR : Hid (RT s a L)) (sl1 sl2 sl3 sl4 sl8 sl9 sl10 sl11 sl12 sl13 sl14 sl15 sl16 sl17 sl18 sl19 sl20 sl21 sl22 sl23 sl24 sl25 sl26 sl27 sl28 sl29 sl30 sl31 sl32 sl33 sl34 sl35 sl36 sl37 sl38 sl39 sl40 sl41 sl42 sl43 sl44 sl45 sl46 sl47 sl48 sl49 sl50 sl51 sl52 sl53 sl54 sl55 sl56 sl57 sl58 sl59 sl60 sl61 sl62 sl63 sl64 sl65 sl66 sl67 sl68 sl69 sl70 sl71 sl72 sl73 sl74 sl75 sl76 sl77 sl78 sl79 sl80 sl81 sl82 sl83 sl84 sl85 sl86 sl87 sl88 sl89 sl90 sl91 sl92 sl93 sl94 sl95 sl96 sl97 sl98 sl99 sl100 sl101 sl102 sl103 sl104 sl105 sl106 sl107 sl108 sl109 sl110 sl111 sl112 sl113 sl114 sl115 sl116 sl117 sl118 sl119 sl120 sl121 sl122 sl123 sl124 sl125 sl126 sl127 sl128 sl129 sl130 sl131 sl132 sl133 sl134 sl135 sl136 sl137 sl138 sl139 sl140 sl141 sl142 sl143 sl144 sl145 sl146 sl147 sl148 sl149 sl150 sl151 sl152 sl153 sl154 sl155 sl156 sl157 sl158 sl159 sl160 sl161 sl162 sl163 sl164 sl165 sl166 sl167 sl168 sl169 sl170 sl171 sl172 sl173 sl174 sl175 sl176 sl177 sl178 sl179 sl180 sl181 sl182 sl183 sl184 sl185 sl186 sl187 sl188 sl189 sl190 sl191 sl192 sl193 sl194 sl195 sl196 sl197 sl198 sl199 sl200 sl201 sl202 sl203 sl204 sl205 sl206 sl207 sl208 : Value) (HG : Hid (GrowT wr (w.heap.size + 1) sl4 L)) (HF : Hid (FB wr w.heap.size)) (HW : Hid (Below w.heap.size w wr))
 (HY2 : Hid (Rst s (0, []) (a + n, L ++ [⟨k, (s.extract a s.size).extract 0 n, v, p, a⟩]))) (HLT : Hid (a < a + n /\ a + n <= s.size)) (hf : firstO (s.extract a s.size) = .tok k n v p)
 (hl' : letB (bt s a) = false) (hdg : digB (bt s a) = true)
 (hQ : ∀ (E : Nat) (wx : World) (d8 d9 d14 d15 d16 d17 d18 d19 d20 d21 d22 d23 d24 d25 d26 d27 d28 d29 d30 d31 d32 d33 d34 d35 d36 d37 d38 d39 d40 d41 d42 d43 d44 d45 d46 d47 d48 d49 d50 d51 d52 d53 d54 d55 d56 d57 d58 d59 d60 d61 d62 d63 d64 d65 d66 d67 d68 d69 d70 d71 d72 d73 d74 d75 d76 d77 d78 d79 d80 d81 d82 d83 d84 d85 d86 d87 d88 d89 d90 d91 d92 d93 d94 d95 d96 d97 d98 d99 d100 d101 d102 d103 d104 d105 d106 d107 d108 d109 d110 d111 d112 d113 d114 d115 d116 d117 d118 d119 d120 d121 d122 d123 d124 d125 d126 d127 d128 d129 d130 d131 d132 d133 d134 d135 d136 d137 d138 d139 d140 d141 d142 d143 d144 d145 d146 d147 d148 d149 d150 d151 d152 d153 d154 d155 d156 d157 d158 d159 d160 d161 d162 d163 d164 d165 d166 d167 d168 d169 d170 d171 d172 d173 d174 d175 d176 d177 d178 d179 d180 d181 d182 d183 d184 d185 d186 d187 d188 d189 d190 d191 d192 d193 d194 d195 d196 d197 d198 d199 d200 d201 d202 d203 d204 d205 d206 : Value), SwAt s a L wr w sl4 E wx -> Q .normal ⟨#[.string s, sl1, sl2, sl3, sl4, .int .i64 (a : Int), .pointer (some ⟨wr.heap.size, 0, none⟩), .int .i64 (E : Int), d8, d9, sl10, sl11, sl12, sl13, d14, d15, d16, d17, d18, d19, d20, d21, d22, d23, d24, d25, d26, d27, d28, d29, d30, d31, d32, d33, d34, d35, d36, d37, d38, d39, d40, d41, d42, d43, d44, d45, d46, d47, d48, d49, d50, d51, d52, d53, d54, d55, d56, d57, d58, d59, d60, d61, d62, d63, d64, d65, d66, d67, d68, d69, d70, d71, d72, d73, d74, d75, d76, d77, d78, d79, d80, d81, d82, d83, d84, d85, d86, d87, d88, d89, d90, d91, d92, d93, d94, d95, d96, d97, d98, d99, d100, d101, d102, d103, d104, d105, d106, d107, d108, d109, d110, d111, d112, d113, d114, d115, d116, d117, d118, d119, d120, d121, d122, d123, d124, d125, d126, d127, d128, d129, d130, d131, d132, d133, d134, d135, d136, d137, d138, d139, d140, d141, d142, d143, d144, d145, d146, d147, d148, d149, d150, d151, d152, d153, d154, d155, d156, d157, d158, d159, d160, d161, d162, d163, d164, d165, d166, d167, d168, d169, d170, d171, d172, d173, d174, d175, d176, d177, d178, d179, d180, d181, d182, d183, d184, d185, d186, d187, d188, d189, d190, d191, d192, d193, d194, d195, d196, d197, d198, d199, d200, d201, d202, d203, d204, d205, d206, sl207, sl208], []⟩ wx) :
 Code.wp Tryz.prog swC Q ⟨#[.string s, sl1, sl2, sl3, sl4, .int .i64 (a : Int), .pointer (some ⟨wr.heap.size, 0, none⟩), .int .i64 (a : Int), sl8, sl9, sl10, sl11, sl12, sl13, sl14, sl15, sl16, sl17, sl18, sl19, sl20, sl21, sl22, sl23, sl24, sl25, sl26, sl27, sl28, sl29, sl30, sl31, sl32, sl33, sl34, sl35, sl36, sl37, sl38, sl39, sl40, sl41, sl42, sl43, sl44, sl45, sl46, sl47, sl48, sl49, sl50, sl51, sl52, sl53, sl54, sl55, sl56, sl57, sl58, sl59, sl60, sl61, sl62, sl63, sl64, sl65, sl66, sl67, sl68, sl69, sl70, sl71, sl72, sl73, sl74, sl75, sl76, sl77, sl78, sl79, sl80, sl81, sl82, sl83, sl84, sl85, sl86, sl87, sl88, sl89, sl90, sl91, sl92, sl93, sl94, sl95, sl96, sl97, sl98, sl99, sl100, sl101, sl102, sl103, sl104, sl105, sl106, sl107, sl108, sl109, sl110, sl111, sl112, sl113, sl114, sl115, sl116, sl117, sl118, sl119, sl120, sl121, sl122, sl123, sl124, sl125, sl126, sl127, sl128, sl129, sl130, sl131, sl132, sl133, sl134, sl135, sl136, sl137, sl138, sl139, sl140, sl141, sl142, sl143, sl144, sl145, sl146, sl147, sl148, sl149, sl150, sl151, sl152, sl153, sl154, sl155, sl156, sl157, sl158, sl159, sl160, sl161, sl162, sl163, sl164, sl165, sl166, sl167, sl168, sl169, sl170, sl171, sl172, sl173, sl174, sl175, sl176, sl177, sl178, sl179, sl180, sl181, sl182, sl183, sl184, sl185, sl186, sl187, sl188, sl189, sl190, sl191, sl192, sl193, sl194, sl195, sl196, sl197, sl198, sl199, sl200, sl201, sl202, sl203, sl204, sl205, sl206, sl207, sl208], []⟩ (wr.alloc (.cells #[.int .i64 0, .string ⟨#[]⟩, .int .i64 0, .bool false, .int .i64 (a : Int)] 94)) := by
 have hx0 : 0 < (s.extract a s.size).size := by rw [ByteArray.size_extract]; omega
 have hbx : bt (s.extract a s.size) 0 = bt s a := by rw [bt_suffix]; rfl
 have hlt' : (a : Int) < (s.size : Int) := by omega
 have hw1 : IntKind.i64.wrap ((a : Int) + 1) = (a : Int) + 1 := IntWalk.i64_in _ (by omega);have HQ := Hd hQ;clear hQ
 conv => arg 2; whnf
 have hla : letAt s (a : Int).toNat = false := hl';have hda : digAt s (a : Int).toNat = true := hdg;obtain ⟨m, hsp, hm0, rfl, htop, hzero, hrest⟩ := first_num hx0 (by rw [hbx]; exact hl') (by rw [hbx]; exact hdg) hf;have hat := SpanIs.at (Nat.le_of_lt hlt) hsp;have HE2 := Hd (span_end hat (by decide));have HE1 := Hd hat.2.1;have hen := hat.1;have HMN := Hd (dv_mono hsp.2.1);have HTP := Hd htop;have HDS : Hid (∀ j, dvN (s.extract a s.size) (j + 1) = 10 * dvN (s.extract a s.size) j + (bt s (a + j) - 48)) := Hd (fun j => by rw [<- bt_suffix]; rfl);have HD0 : Hid (dvN (s.extract a s.size) 0 = 0) := Hd rfl;have hbb := bt_in hlt;have hz2 : ((s[a]).toNat : Int) = 48 -> m = 1 := fun h => hzero (hbx.trans (hbb.trans h))
 rw [bt_suffix, bt_suffix, bt_suffix] at hrest;have HRS := Hd hrest;have HZZ := Hd hz2;obtain ⟨D, hD⟩ : ∃ D, dvN (s.extract a s.size) = D := ⟨_, rfl⟩;rw [hD] at HMN HTP HDS HD0 HRS;clear hat hsp hf hrest hzero hz2 htop hbx hx0 hl' hdg hD hbb;go_wp2_with fail
 refine (isLetter_ref s (a : Int) _ (by omega)).mono ?_;rintro e' w' ⟨rfl, h'⟩;subst w';rw [hla];go_wp2_with fail
 refine (isDigit_ref s (a : Int) _ (by omega)).mono ?_;rintro e' w' ⟨rfl, h'⟩;subst w';rw [hda];go_wp2_with fail
 go_loopw [7, 8] (fun i x wr2 => ∃ j : Nat, j <= m /\ i = .int .i64 ((a + j : Nat) : Int) /\ x = .int .i64 (D j) /\ wr2 = wr.alloc (.cells #[.int .i64 0, .string ⟨#[]⟩, .int .i64 0, .bool false, .int .i64 (a : Int)] 94)) (fun i _ _ => s.size - (intOf i).toNat)
 case atStart => exact ⟨0, Nat.zero_le _, rfl, by rw [HD0.out], rfl⟩
 case round =>
  obtain ⟨j, hj, rfl, rfl, rfl⟩ := hrel;obtain ⟨e, he⟩ : ∃ e, e = a + j := ⟨_, rfl⟩;rw [<- he];have hw2 : IntKind.i64.wrap ((e : Int) + 1) = (e : Int) + 1 := IntWalk.i64_in _ (by omega);obtain ⟨hn0, -⟩ := HMN.out j hj;have hnt : D j <= 10000000000 := Int.le_trans ((HMN.out m (Nat.le_refl _)).2 j hj) HTP.out;have HE := Hd he
  by_cases hjm : j < m
  ·have hle : digAt s (e : Int).toNat = true := by rw [he]; exact HE1.out j hjm
   have hes : e < s.size := by omega
   have hes' : (e : Int) < (s.size : Int) := by omega
   have hds := HDS.out j;have hdg := HE1.out j hjm;rw [<- he, bt_in hes] at hds hdg;have hdd : 48 <= ((s[e]).toNat : Int) /\ ((s[e]).toNat : Int) <= 57 := of_decide_eq_true hdg;have hwA : IntKind.i64.wrap (10 * D j) = 10 * D j := IntWalk.i64_in _ (by omega);have hwB : IntKind.i64.wrap (10 * D j + ((s[e]).toNat : Int)) = 10 * D j + ((s[e]).toNat : Int) := IntWalk.i64_in _ (by omega);have hwC : IntKind.i64.wrap (10 * D j + ((s[e]).toNat : Int) - 48) = D (j + 1) := by rw [IntWalk.i64_in _ (by omega), hds]; omega
   have hn12 : D j <= 1000000000000 := by omega
   clear he hds hdg;go_wp2_with fail
   refine (isDigit_ref s (e : Int) _ (by omega)).mono ?_;rintro e' w' ⟨rfl, h'⟩;subst w';rw [hle];go_wp2_with fail
   go_roundw
   case rel => exact ⟨j + 1, by omega, by have := HE.out; show Value.int _ _ = Value.int _ _; congr 1; omega, rfl, by first | rfl | trivial⟩
   case measure => simp [intOf]; have := HE.out; omega
  ·obtain rfl : j = m := by omega
   have hle : digAt s (e : Int).toNat = false := by rw [he]; exact HE2.out
   have hsl1 : (a : Int) <= (e : Int) := by omega
   have hsl2 : (e : Int) <= (s.size : Int) := by omega
   have hea : a < e := by omega
   have hwz : IntKind.i64.wrap ((e : Int) - (a : Int)) = (e : Int) - (a : Int) := IntWalk.i64_in _ (by omega);have hzc : (((s[a]).toNat : Int) = 48 /\ decide ((1 : Int) < (e : Int) - (a : Int)) = false) \/ (((s[a]).toNat : Int) == 48) = false := by
    by_cases q : ((s[a]).toNat : Int) = 48
    ·exact .inl ⟨q, dEf (by have := HZZ.out q; omega)⟩
    ·exact .inr (by simpa using q)
   obtain ⟨N, hN⟩ : ∃ N, D j = N := ⟨_, rfl⟩;rw [hN] at hn0 hnt HRS ⊢;have hwN : IntKind.i64.wrap (100 * N) = 100 * N := IntWalk.i64_in _ (by omega)
   rcases HRS.out with ⟨h46, rfl, rfl, rfl⟩ | ⟨h46, hd1, hd2, rfl, rfl, rfl, hv⟩
   ·rw [ext_ext hen] at HY2;rw [<- he] at HY2 HLT h46;have h12 : decide ((1000000000000 : Int) < 100 * N) = false := dEf (by omega);have hpc : (∃ h : e < s.size, ((e : Int) < (s.size : Int)) /\ (((s[e]).toNat : Int) == 46) = false) \/ ¬ (e : Int) < (s.size : Int) := by
     by_cases q : e < s.size
     ·exact .inl ⟨q, by omega, by rw [bt_in q] at h46; simpa using h46⟩
     ·exact .inr (by omega)
    clear he hN h46 HRS HMN HTP HDS HD0 HE1 HE2
    rcases hpc with ⟨h1, h2, h3⟩ | h1
    all_goals rcases hzc with ⟨hz1, hz2⟩ | hz1
    all_goals
     go_wp2_with fail
     refine (isDigit_ref s (e : Int) _ (by omega)).mono ?_;rintro e' w' ⟨rfl, h'⟩;subst w';rw [hle];go_wp2_with fail
     go_region
     have hB1 := rkbelow_dN (rkbelow_box wr (.cells #[.int .i64 2, .string (s.extract a e), .int .i64 (100 * N), .bool false, .int .i64 (a : Int)] 94)) 1;have hT1 := TBox.made wr 94 2 (s.extract a e) (100 * N) false (a : Int)
     try go_wp2_with fail
     exact HQ.out e _ _ _ _ _ _ _ _ _ _ _ _ _ _ _ _ _ _ _ _ _ _ _ _ _ _ _ _ _ _ _ _ _ _ _ _ _ _ _ _ _ _ _ _ _ _ _ _ _ _ _ _ _ _ _ _ _ _ _ _ _ _ _ _ _ _ _ _ _ _ _ _ _ _ _ _ _ _ _ _ _ _ _ _ _ _ _ _ _ _ _ _ _ _ _ _ _ _ _ _ _ _ _ _ _ _ _ _ _ _ _ _ _ _ _ _ _ _ _ _ _ _ _ _ _ _ _ _ _ _ _ _ _ _ _ _ _ _ _ _ _ _ _ _ _ _ _ _ _ _ _ _ _ _ _ _ _ _ _ _ _ _ _ _ _ _ _ _ _ _ _ _ _ _ _ _ _ _ _ _ _ _ _ _ _ _ _ _ _ _ _ _ _ _ _ _ ⟨2, 100 * N, false, by have := HLT.out; omega, by have := HLT.out; omega, HY2.out, hT1, HG.out.below hB1, HF.out.below hB1 (FB.lt HF.out), HW.out.trans (hB1.mono HW.out.size), by simp⟩
   ·obtain ⟨g1, hg1⟩ : ∃ g1, g1 = e + 1 := ⟨_, rfl⟩;obtain ⟨g2, hg2⟩ : ∃ g2, g2 = e + 2 := ⟨_, rfl⟩;obtain ⟨f, hf⟩ : ∃ f, f = e + 3 := ⟨_, rfl⟩;rw [show a + (j + 1) = g1 by omega] at hd1 hv HY2;rw [show a + (j + 2) = g2 by omega] at hd2 hv HY2;rw [<- he] at h46;have q0 : e < s.size := by
     by_cases q : e < s.size
     ·exact q
     ·rw [bt_out q] at h46; omega
    have q1 : g1 < s.size := by
     by_cases q : g1 < s.size
     ·exact q
     ·rw [bt_out q] at hd1; cases hd1
    have q2 : g2 < s.size := by
     by_cases q : g2 < s.size
     ·exact q
     ·rw [bt_out q] at hd2; cases hd2
    have hle1 : digAt s (g1 : Int).toNat = true := hd1;have hle2 : digAt s (g2 : Int).toNat = true := hd2;rw [bt_in q0] at h46;rw [bt_in q1] at hd1 hv HY2;rw [bt_in q2] at hd2 hv HY2;have b1 : 48 <= ((s[g1]).toNat : Int) /\ ((s[g1]).toNat : Int) <= 57 := of_decide_eq_true hd1;have b2 : 48 <= ((s[g2]).toNat : Int) /\ ((s[g2]).toNat : Int) <= 57 := of_decide_eq_true hd2;obtain ⟨C1, C2, C3, C4, V, hV, ww1, ww2, ww3, ww4, ww5, vv8, vv9, vv1, vv2, vv3, vv4, vv5⟩ := num_sums hn0 hnt b1 b2;have HWW := Hd (And.intro ww1 (And.intro ww2 (And.intro ww3 (And.intro ww4 (And.intro ww5 (And.intro vv8 (And.intro vv9 (And.intro vv1 (And.intro vv2 (And.intro vv3 (And.intro vv4 vv5)))))))))));clear ww1 ww2 ww3 ww4 ww5 vv8 vv9 vv1 vv2 vv3 vv4 vv5;rw [hV] at hv HY2;have wg1 : IntKind.i64.wrap ((e : Int) + 1) = (g1 : Int) := wrap_at 1 (by omega) (by omega);have wg2 : IntKind.i64.wrap ((e : Int) + 2) = (g2 : Int) := wrap_at 2 (by omega) (by omega);have wf : IntKind.i64.wrap ((e : Int) + 3) = (f : Int) := wrap_at 3 (by omega) (by omega);have h12 : decide ((1000000000000 : Int) < V) = false := dEf (by omega);rw [ext_ext (show a + (j + 3) <= s.size by omega), show a + (j + 3) = f by omega] at HY2;rw [show a + (j + 3) = f by omega] at HLT;have hsl3 : (a : Int) <= (f : Int) := by omega
    have hsl4 : (f : Int) <= (s.size : Int) := by omega
    have i0 : (e : Int) < (s.size : Int) := by omega
    have i1 : (g1 : Int) < (s.size : Int) := by omega
    have i2 : (g2 : Int) < (s.size : Int) := by omega
    obtain ⟨ww1, ww2, ww3, ww4, ww5, vv8, vv9, vv1, vv2, vv3, vv4, vv5⟩ := HWW.out;clear hw2 he hN HRS HMN HTP HDS HD0 HE1 HE2 HWW hV hg1 hg2 hf hd1 hd2 hv b1 b2
    rcases hzc with ⟨hz1, hz2⟩ | hz1
    all_goals
     go_wp2_with fail
     refine (isDigit_ref s (e : Int) _ (by omega)).mono ?_;rintro e' w' ⟨rfl, h'⟩;subst w';rw [hle];go_wp2_with fail
     refine (isDigit_ref s (g1 : Int) _ (by omega)).mono ?_;rintro e' w' ⟨rfl, h'⟩;subst w';rw [hle1];go_wp2_with fail
     refine (isDigit_ref s (g2 : Int) _ (by omega)).mono ?_;rintro e' w' ⟨rfl, h'⟩;subst w';rw [hle2];go_wp2_with fail
     go_quiet (fail)
     go_wp2_with fail
     go_region
     have hB1 := rkbelow_dN (rkbelow_box wr (.cells #[.int .i64 0, .string ⟨#[]⟩, .int .i64 0, .bool false, .int .i64 (a : Int)] 94)) nq;have hT1 : TBox ((wr.alloc (.cells #[.int .i64 0, .string ⟨#[]⟩, .int .i64 0, .bool false, .int .i64 (a : Int)] 94)).drewN nq) wr.heap.size 0 ⟨#[]⟩ 0 false (a : Int) := TBox.made wr 94 0 ⟨#[]⟩ 0 false (a : Int);have hown : ∀ k, sl4.ownBlock = some k -> k ≠ wr.heap.size := fun k hk => by have := HG.out.lt k hk; omega
     have hfl := FB.lt HF.out
     try go_wp2_with fail
     exact HQ.out f _ _ _ _ _ _ _ _ _ _ _ _ _ _ _ _ _ _ _ _ _ _ _ _ _ _ _ _ _ _ _ _ _ _ _ _ _ _ _ _ _ _ _ _ _ _ _ _ _ _ _ _ _ _ _ _ _ _ _ _ _ _ _ _ _ _ _ _ _ _ _ _ _ _ _ _ _ _ _ _ _ _ _ _ _ _ _ _ _ _ _ _ _ _ _ _ _ _ _ _ _ _ _ _ _ _ _ _ _ _ _ _ _ _ _ _ _ _ _ _ _ _ _ _ _ _ _ _ _ _ _ _ _ _ _ _ _ _ _ _ _ _ _ _ _ _ _ _ _ _ _ _ _ _ _ _ _ _ _ _ _ _ _ _ _ _ _ _ _ _ _ _ _ _ _ _ _ _ _ _ _ _ _ _ _ _ _ _ _ _ _ _ _ _ _ _ ⟨2, V, true, by have := HLT.out; omega, by have := HLT.out; omega, HY2.out, (((hT1.pnt true).kind 2).txt (s.extract a f)).nmb (V), ((((HG.out.below hB1).away (p := ⟨wr.heap.size, 3, none⟩) hown (.bool true)).away (p := ⟨wr.heap.size, 0, none⟩) hown (.int .i64 2)).away (p := ⟨wr.heap.size, 1, none⟩) hown (.string (s.extract a f))).away (p := ⟨wr.heap.size, 2, none⟩) hown (.int .i64 (V)), ((((HF.out.below hB1 hfl).set (b := wr.heap.size) (i := 3) (by omega) (.bool true)).set (b := wr.heap.size) (i := 0) (by omega) (.int .i64 2)).set (b := wr.heap.size) (i := 1) (by omega) (.string (s.extract a f))).set (b := wr.heap.size) (i := 2) (by omega) (.int .i64 (V)), rkbelow_dN (((((HW.out.trans (hB1.mono HW.out.size)).setCell (p := ⟨wr.heap.size, 3, none⟩) HW.out.size (.bool true)).setCell (p := ⟨wr.heap.size, 0, none⟩) HW.out.size (.int .i64 2)).setCell (p := ⟨wr.heap.size, 1, none⟩) HW.out.size (.string (s.extract a f))).setCell (p := ⟨wr.heap.size, 2, none⟩) HW.out.size (.int .i64 (V))) 1, by simp⟩
end Go.Proofs.YtmlpedgcpffpnaaGreatDoor
