/-
  MerkleHolds, walked (by gen_holds.py).
-/
import Derived.Test.YtpphlmbhonaglaaDoorHoldD
namespace Go.Proofs.YtpphlmbhonaglaaDoor
open Go.RowKit
set_option linter.unusedSimpArgs false
set_option maxRecDepth 100000 in
set_option maxHeartbeats 16000000 in
theorem merkleHolds_walk (a0 a1 a2 a3 : Int) (w : World) (hC : RC w) (_w0 : (Lit.int .i64 a0).wf = true) (_w1 : (Lit.int .i64 a1).wf = true) (_w2 : (Lit.int .i64 a2).wf = true) (_w3 : (Lit.int .i64 a3).wf = true) :
    Calls Tryd.prog 3 #[.int .i64 a0, .int .i64 a1, .int .i64 a2, .int .i64 a3] w fun e w' => e = .returned (.bool true) ∧ Below w.heap.size w w' := by
  obtain ⟨N, hN, hN3⟩ := wth_nat a0 40 (by omega)
  have HN := Lib.hid hN
  clear hN _w0 _w1 _w2 _w3
  obtain ⟨n, hn⟩ : ∃ n, n = N + 1 := ⟨_, rfl⟩
  have e1 : (1 : Int) + (N : Int) = (n : Int) := by omega
  have hn1 : 1 ≤ n := by omega
  have hn2 : n ≤ 40 := by omega
  clear hn hN3
  obtain ⟨i, hi, hin⟩ := wth_nat a1 n (by omega)
  obtain ⟨j, hj, hjn⟩ := wth_nat a2 n (by omega)
  have HI := Lib.hid hi
  have HJ := Lib.hid hj
  clear hi hj
  go_enter Tryd.func3, Tryd.ntmps3
  go_wp2_with fail
  refine (known3 _ hC).mono ?_
  rintro e w1 ⟨rfl, B1⟩
  go_wp2_with fail
  refine (within3_any a0 40 _ (by omega) (by omega)).mono ?_
  rintro e w' ⟨rfl, rfl⟩
  rw [show wth a0 (40 : Int) = (N : Int) from HN.out]
  go_wp2_with fail
  refine (within3_any a1 n _ (by omega) (by omega)).mono ?_
  rintro e w' ⟨rfl, rfl⟩
  rw [show wth a1 (n : Int) = (i : Int) from HI.out]
  go_wp2_with fail
  refine (within3_any a2 n _ (by omega) (by omega)).mono ?_
  rintro e w' ⟨rfl, rfl⟩
  rw [show wth a2 (n : Int) = (j : Int) from HJ.out]
  go_wp2_with fail
  refine (lHashes_any n _ (by omega)).mono ?_
  rintro e w2 ⟨v2, rfl, hO2, b2⟩
  obtain ⟨ao, c, rfl, hI2, -⟩ := hO2.isH
  have B2 := B1.trans (b2.mono B1.size)
  clear hO2 b2 B1
  obtain ⟨al, rfl⟩ := hI2.has (by omega)
  go_wp2_with fail
  refine (root_any (some al) n c (hsL n) _ (hC.past B2) hI2 (by omega)).mono ?_
  rintro e w3 ⟨rfl, b3⟩
  have I3 := hI2.past b3
  have B3 := B2.trans (b3.mono B2.size)
  have hr32 := rootS_length (hsL n) hI2.all
  have HR := Lib.hid hr32
  obtain ⟨r, hr⟩ : ∃ r, r = rootS (hsL n) := ⟨_, rfl⟩
  rw [← hr] at HR ⊢
  have HRR := Lib.hid hr
  clear b3 B2 hI2 hr32 hr
  go_wp2_with (first
    | ((with_reducible refine wpList_alloc_blk (o := ⟨some 10, _, _, _, _, _⟩) rfl 27 rfl _ zeroHash ?_); intro w4 g h4 b4 q4)
    | ((with_reducible refine wpList_store_blk rfl 27 _ _ rfl g _ (bcs r).toArray ?_ ?_ _ h4 32 sizeHash (by simp [bcs_length]) (by simp [bcs_length, HR.out]) (bcs_all _) ?_); (rfl); (rfl); (intro w5 h5 b5)))
  have hs3 := B3.size
  have I5 : IsH w5 (some al) n c (hsL n) := (I3.past b4).grown b5 (fun a' ha' e => by
    obtain rfl := Option.some.inj ha'
    have hlt : al.block < w3.heap.size := by
      have := I3.at_ al rfl 0 (by omega)
      have h32 := I3.one 0 (by omega)
      match hx : (hsL n).getD 0 [], h32 with
      | u :: t, _ =>
        have hc := this 0 u (by rw [hx]; rfl)
        have := World.block_lt_of_cell? w3 _ hc
        rw [block_add, block_add] at this
        exact this
    simp at e
    omega)
  have B5 : Below w.heap.size w w5 := (B3.trans (b4.mono hs3)).grown b5 (by have := b4.size; omega) (fun k hk => by cases hk; omega)
  have G5 : HAt w5 g r := ⟨h5.out, HR.out⟩
  clear h4 b4 b5 B3 I3 q4 h5 hs3
  go_wp2_with fail
  refine (proof_any (some al) n c (hsL n) i _ (hC.past B5) I5 (by omega) hin).mono ?_
  rintro e w7 ⟨v7, rfl, hO7, b7⟩
  obtain ⟨ap, cp, rfl, hP7, -⟩ := hO7.isH
  have B7 := B5.trans (b7.mono B5.size)
  have G7 := G5.past b7
  have I7 := I5.past b7
  have PL := Mk.proof_length two (sha []) _ _ i (hsL_length n)
  have PD := Mk.dirs_short 6 n i (by omega) hin
  have HCK := chk_proof (hsL n) i (by rw [hsL_length]; exact hin)
  rw [hsL_length, ← HRR.out, hsL_get n i hin] at HCK
  have PLN : (proofS (hsL n) i).length = (Mk.dirs n i).length := PL
  clear PL HRR hO7 b7 I5 B5 G5
  have tI := I7.at_ al rfl i hin
  have tJ := I7.at_ al rfl j hjn
  have t0 := I7.at_ al rfl 0 hn1
  rw [hsL_get n i hin] at tI
  rw [hsL_get n j hjn] at tJ
  rw [hsL_get n 0 hn1, show al.add (0 * 32) = al by go_simp] at t0
  have hI32 := hsh_length i
  have hJ32 := hsh_length j
  have h032 := hsh_length 0
  have u24 := Tryd.underlying27
  generalize hsh i = li at tI hI32 HCK
  generalize hsh j = lj at tJ hJ32
  generalize hsh 0 = l0 at t0 h032
  clear I7
  generalize proofS (hsL n) i = p at hP7 HCK PLN
  have hpl := hP7.len
  replace HR := HR.out
  have hm6 : p.length ≤ 6 := by omega
  have c1 : chkI r li (i : Int) (n : Int) p = true := by
    unfold chkI
    rw [if_pos (by omega), Int.toNat_natCast, Int.toNat_natCast]
    exact HCK
  have c2 : chkI r li (n : Int) (n : Int) p = false := by
    unfold chkI
    rw [if_neg (by omega)]
  have c3 : chkI r li (-1) (n : Int) p = false := by
    unfold chkI
    rw [if_neg (by omega)]
  have c4 : chkI r li (i : Int) (n : Int) (p ++ [l0]) = false := by
    unfold chkI
    rw [if_pos (by omega), Int.toNat_natCast, Int.toNat_natCast]
    unfold chk
    have : ((p ++ [l0]).length == (Mk.dirs n i).length) = false := by
      rw [← PLN]
      simp
    rw [this, Bool.false_and]
  have M1 := fun w h1 h2 => mcheck_all r li (i : Int) (n : Int) ap p.length cp p w h1 HR hI32 h2 (by omega)
  have M2 := fun w h1 h2 => mcheck_all r li (n : Int) (n : Int) ap p.length cp p w h1 HR hI32 h2 (by omega)
  have M3 := fun w h1 h2 => mcheck_all r li (-1) (n : Int) ap p.length cp p w h1 HR hI32 h2 (by omega)
  have M4 := fun (ao : Option Addr) (c : Nat) w h1 h2 => mcheck_all r li (i : Int) (n : Int) ao (p.length + 1) c (p ++ [l0]) w h1 HR hI32 h2 (by omega)
  rw [c1] at M1
  rw [c2] at M2
  rw [c3] at M3
  rw [c4] at M4
  clear c1 c2 c3 c4 hpl
  have hC7 := hC.past B7
  have hm6' := hm6
  have PLM : Hid (p.length = (Mk.dirs n i).length) := PLN
  clear PLN
  obtain ⟨m, hpm⟩ : ∃ m, p.length = m := ⟨_, rfl⟩
  have HPM := Lib.hid hpm
  rw [hpm] at hP7 hm6 M1 M2 M3 M4 PLM ⊢
  clear hpm hm6' PD
  have M5 := fun w h1 h2 => mcheck_all r lj (i : Int) (n : Int) ap m cp p w h1 HR hJ32 h2 (by omega)
  have R5 := fun w h2 => rcheck_all r lj (i : Int) (n : Int) ap m cp p w HR hJ32 h2
  have M6 := fun w h1 h2 => mcheck_all r li (j : Int) (n : Int) ap m cp p w h1 HR hI32 h2 (by omega)
  have R6 := fun w h2 => rcheck_all r li (j : Int) (n : Int) ap m cp p w HR hI32 h2
  generalize chkI r lj (i : Int) (n : Int) p = C1 at M5 R5
  generalize chkI r li (j : Int) (n : Int) p = C2 at M6 R6
  have n0 : (0 : Int) < n := by omega
  have n0' : 0 < n := hn1
  have ni : (i : Int) < n := by omega
  have nj : (j : Int) < n := by omega
  go_upto_region 8 with fail
  go_cut [87] from 35 to 87 (fun v wx => v = .bool false ∧ Below w7.heap.size w7 wx)
  case first =>
    have hg := G7.past (Below.refl _ w7).drew
    have hP := hP7.past (Below.refl _ w7).drew
    replace tI := tI.past (Below.refl _ w7).drew
    replace t0 := t0.past (Below.refl _ w7).drew
    have hb8 := (Below.refl w7.heap.size w7).drew
    replace hC := hC7.past (Below.refl _ w7).drew
    clear G7 hP7 B7 hC7 M5 R5 M6 R6 tJ
    refine region_inv (Holds8 al n c i g r ap m cp p li l0) (by kernel_rfl) (by kernel_rfl) ?_ ?_ ?_
    · exact ⟨false, false, false, false, false, false, false, false, false, false, false, false, false, false, false, false, false, false, false, false, false, false, false, false, false, false, false, false, false, false, false, false, false, false, false, false, false, false, false, false, false, false, false, false, false, false, false, false, false, false, false, false, false, undef, undef, undef, undef, undef, undef, undef, undef, undef, undef, undef, undef, undef, undef, undef, undef, undef, undef, undef, undef, undef, undef, undef, undef, undef, undef, undef, undef, undef, undef, undef, undef, undef, undef, undef, undef, undef, undef, undef, undef, undef, undef, undef, undef, undef, undef, undef, undef, undef, undef, undef, undef, undef, 0, none, 0, 0, none, 0, rfl, (by simp only [Act.put, sI, s0, s1]), Below.refl _ _, (fun h => by cases h), (fun h => by cases h), (fun h => by cases h), (fun h => by cases h), (fun h => by cases h), (fun h => by cases h), (fun h => by cases h), (fun h => by cases h), (fun h => by cases h), (fun h => by cases h), (fun h => by cases h), (fun h => by cases h), (fun h => by cases h), (fun h => by cases h), (fun h => by cases h), (fun h => by cases h), (fun h => by cases h), (fun h => by cases h), (fun h => by cases h), (fun h => by cases h), (fun h => by cases h), (fun h => by cases h), (fun h => by cases h), (fun h => by cases h), (fun h => by cases h), (fun h => by cases h), (fun h => by cases h), (fun h => by cases h), (fun h => by cases h), (fun h => by cases h), (fun h => by cases h), (fun h => by cases h), (fun h => by cases h), (fun h => by cases h), (fun h => by cases h), (fun h => by cases h), (fun h => by cases h), (fun h => by cases h), (fun h => by cases h), (fun h => by cases h), (fun h => by cases h), (fun h => by cases h), (fun h => by cases h), (fun h => by cases h), (fun h => by cases h), (fun h => by cases h), (fun h => by cases h), (fun h => by cases h), (fun h => by cases h), (fun h => by cases h), (fun h => by cases h), (fun h => by cases h), (fun h => by cases h), (fun h => by cases h), (fun h => by cases h), (fun h => by cases h), (fun h => by cases h)⟩
    · refine ⟨?_, ?_, ?_, ?_, ?_, ?_, ?_, ?_, ?_, ?_, ?_, ?_, ?_, ?_, ?_, ?_, ?_, ?_, ?_, ?_, ?_, ?_, ?_, ?_, ?_, ?_, ?_, ?_, ?_, ?_, ?_, ?_, ?_, ?_, ?_, ?_, ?_, ?_, ?_, ?_, ?_, ?_, ?_, ?_, ?_, ?_, ?_, ?_, ?_, ?_, ?_, ?_, ?_, trivial⟩
      · rintro L a w ⟨b0,b1,b2,b3,b4,b5,b6,b7,b8,b9,b10,b11,b12,b13,b14,b15,b16,b17,b18,b19,b20,b21,b22,b23,b24,b25,b26,b27,b28,b29,b30,b31,b32,b33,b34,b35,b36,b37,b38,b39,b40,b41,b42,b43,b44,b45,b46,b47,b48,b49,b50,b51,b52,x35,x36,x37,x38,x39,x40,x41,x42,x43,x44,x45,x46,x47,x48,x49,x50,x51,x52,x53,x54,x55,x56,x57,x58,x59,x60,x61,x62,x63,x64,x65,x66,x67,x68,x69,x70,x71,x72,x73,x74,x75,x76,x77,x78,x79,x80,x81,x82,x83,x84,x85,x86,x87,ge,a80,c80,gl,a85,c85,rfl,rfl,hb,cd0,cd1,cd2,cd3,cd4,cd5,cd6,cd7,cd8,cd9,cd10,cd11,cd12,cd13,cd14,cd15,cd16,cd17,cd18,cd19,cd20,cd21,cd22,cd23,cd24,cd25,cd26,cd27,cd28,cd29,cd30,cd31,cd32,cd33,cd34,cd35,cd36,cd37,cd38,cd39,cd40,cd41,cd42,cd43,cd44,cd45,cd46,cd47,cd48,cd49,cd50,cd51,cd52,wf43,wf45,wf49,wf50⟩ hf hd
        have hf' : b0 = false := hf
        subst hf'
        clear hf hd
        try simp only [sI, s0, s1]
        intro K hK
        rw [if_pos (by rfl)]
        go_simp
        exact hK.out _ _ ⟨true, b1, b2, b3, b4, b5, b6, b7, b8, b9, b10, b11, b12, b13, b14, b15, b16, b17, b18, b19, b20, b21, b22, b23, b24, b25, b26, b27, b28, b29, b30, b31, b32, b33, b34, b35, b36, b37, b38, b39, b40, b41, b42, b43, b44, b45, b46, b47, b48, b49, b50, b51, b52, (.int .i64 0), x36, x37, x38, x39, x40, x41, x42, x43, x44, x45, x46, x47, x48, x49, x50, x51, x52, x53, x54, x55, x56, x57, x58, x59, x60, x61, x62, x63, x64, x65, x66, x67, x68, x69, x70, x71, x72, x73, x74, x75, x76, x77, x78, x79, x80, x81, x82, x83, x84, x85, x86, x87, ge, a80, c80, gl, a85, c85, (by simp only [Act.put, sI, s0, s1]), (by simp only [Act.put, sI, s0, s1]), hb, (fun _ => rfl), cd1, cd2, cd3, cd4, cd5, cd6, cd7, cd8, cd9, cd10, cd11, cd12, cd13, cd14, cd15, cd16, cd17, cd18, cd19, cd20, cd21, cd22, cd23, cd24, cd25, cd26, cd27, cd28, cd29, cd30, cd31, cd32, cd33, cd34, cd35, cd36, cd37, cd38, cd39, cd40, cd41, cd42, cd43, cd44, cd45, cd46, cd47, cd48, cd49, cd50, cd51, cd52, wf43, wf45, wf49, wf50⟩
      · rintro L a w ⟨b0,b1,b2,b3,b4,b5,b6,b7,b8,b9,b10,b11,b12,b13,b14,b15,b16,b17,b18,b19,b20,b21,b22,b23,b24,b25,b26,b27,b28,b29,b30,b31,b32,b33,b34,b35,b36,b37,b38,b39,b40,b41,b42,b43,b44,b45,b46,b47,b48,b49,b50,b51,b52,x35,x36,x37,x38,x39,x40,x41,x42,x43,x44,x45,x46,x47,x48,x49,x50,x51,x52,x53,x54,x55,x56,x57,x58,x59,x60,x61,x62,x63,x64,x65,x66,x67,x68,x69,x70,x71,x72,x73,x74,x75,x76,x77,x78,x79,x80,x81,x82,x83,x84,x85,x86,x87,ge,a80,c80,gl,a85,c85,rfl,rfl,hb,cd0,cd1,cd2,cd3,cd4,cd5,cd6,cd7,cd8,cd9,cd10,cd11,cd12,cd13,cd14,cd15,cd16,cd17,cd18,cd19,cd20,cd21,cd22,cd23,cd24,cd25,cd26,cd27,cd28,cd29,cd30,cd31,cd32,cd33,cd34,cd35,cd36,cd37,cd38,cd39,cd40,cd41,cd42,cd43,cd44,cd45,cd46,cd47,cd48,cd49,cd50,cd51,cd52,wf43,wf45,wf49,wf50⟩ hf hd
        have hf' : b1 = false := hf
        subst hf'
        have d0 : b0 = true := hd ⟨0, .data⟩ (by simp) rfl
        subst d0
        obtain rfl := cd0.out rfl
        clear hf hd
        try simp only [sI, s0, s1]
        intro K hK
        rw [if_pos (by rfl)]
        go_simp
        exact hK.out _ _ ⟨true, true, b2, b3, b4, b5, b6, b7, b8, b9, b10, b11, b12, b13, b14, b15, b16, b17, b18, b19, b20, b21, b22, b23, b24, b25, b26, b27, b28, b29, b30, b31, b32, b33, b34, b35, b36, b37, b38, b39, b40, b41, b42, b43, b44, b45, b46, b47, b48, b49, b50, b51, b52, .int .i64 0, (.bool false), x37, x38, x39, x40, x41, x42, x43, x44, x45, x46, x47, x48, x49, x50, x51, x52, x53, x54, x55, x56, x57, x58, x59, x60, x61, x62, x63, x64, x65, x66, x67, x68, x69, x70, x71, x72, x73, x74, x75, x76, x77, x78, x79, x80, x81, x82, x83, x84, x85, x86, x87, ge, a80, c80, gl, a85, c85, (by simp only [Act.put, sI, s0, s1]), (by simp only [Act.put, sI, s0, s1]), hb, (fun _ => rfl), (fun _ => rfl), cd2, cd3, cd4, cd5, cd6, cd7, cd8, cd9, cd10, cd11, cd12, cd13, cd14, cd15, cd16, cd17, cd18, cd19, cd20, cd21, cd22, cd23, cd24, cd25, cd26, cd27, cd28, cd29, cd30, cd31, cd32, cd33, cd34, cd35, cd36, cd37, cd38, cd39, cd40, cd41, cd42, cd43, cd44, cd45, cd46, cd47, cd48, cd49, cd50, cd51, cd52, wf43, wf45, wf49, wf50⟩
      · rintro L a w ⟨b0,b1,b2,b3,b4,b5,b6,b7,b8,b9,b10,b11,b12,b13,b14,b15,b16,b17,b18,b19,b20,b21,b22,b23,b24,b25,b26,b27,b28,b29,b30,b31,b32,b33,b34,b35,b36,b37,b38,b39,b40,b41,b42,b43,b44,b45,b46,b47,b48,b49,b50,b51,b52,x35,x36,x37,x38,x39,x40,x41,x42,x43,x44,x45,x46,x47,x48,x49,x50,x51,x52,x53,x54,x55,x56,x57,x58,x59,x60,x61,x62,x63,x64,x65,x66,x67,x68,x69,x70,x71,x72,x73,x74,x75,x76,x77,x78,x79,x80,x81,x82,x83,x84,x85,x86,x87,ge,a80,c80,gl,a85,c85,rfl,rfl,hb,cd0,cd1,cd2,cd3,cd4,cd5,cd6,cd7,cd8,cd9,cd10,cd11,cd12,cd13,cd14,cd15,cd16,cd17,cd18,cd19,cd20,cd21,cd22,cd23,cd24,cd25,cd26,cd27,cd28,cd29,cd30,cd31,cd32,cd33,cd34,cd35,cd36,cd37,cd38,cd39,cd40,cd41,cd42,cd43,cd44,cd45,cd46,cd47,cd48,cd49,cd50,cd51,cd52,wf43,wf45,wf49,wf50⟩ hf hd
        have hf' : b2 = false := hf
        subst hf'
        have d1 : b1 = true := hd ⟨1, .data⟩ (by simp) rfl
        subst d1
        obtain rfl := cd1.out rfl
        clear hf hd
        try simp only [sI, s0, s1]
        intro K hK
        rw [if_pos (by rfl)]
        go_simp
        exact hK.out _ _ ⟨b0, true, true, b3, b4, b5, b6, b7, b8, b9, b10, b11, b12, b13, b14, b15, b16, b17, b18, b19, b20, b21, b22, b23, b24, b25, b26, b27, b28, b29, b30, b31, b32, b33, b34, b35, b36, b37, b38, b39, b40, b41, b42, b43, b44, b45, b46, b47, b48, b49, b50, b51, b52, x35, .bool false, (.bool false), x38, x39, x40, x41, x42, x43, x44, x45, x46, x47, x48, x49, x50, x51, x52, x53, x54, x55, x56, x57, x58, x59, x60, x61, x62, x63, x64, x65, x66, x67, x68, x69, x70, x71, x72, x73, x74, x75, x76, x77, x78, x79, x80, x81, x82, x83, x84, x85, x86, x87, ge, a80, c80, gl, a85, c85, (by simp only [Act.put, sI, s0, s1]), (by simp only [Act.put, sI, s0, s1]), hb, cd0, (fun _ => rfl), (fun _ => rfl), cd3, cd4, cd5, cd6, cd7, cd8, cd9, cd10, cd11, cd12, cd13, cd14, cd15, cd16, cd17, cd18, cd19, cd20, cd21, cd22, cd23, cd24, cd25, cd26, cd27, cd28, cd29, cd30, cd31, cd32, cd33, cd34, cd35, cd36, cd37, cd38, cd39, cd40, cd41, cd42, cd43, cd44, cd45, cd46, cd47, cd48, cd49, cd50, cd51, cd52, wf43, wf45, wf49, wf50⟩
      · rintro L a w ⟨b0,b1,b2,b3,b4,b5,b6,b7,b8,b9,b10,b11,b12,b13,b14,b15,b16,b17,b18,b19,b20,b21,b22,b23,b24,b25,b26,b27,b28,b29,b30,b31,b32,b33,b34,b35,b36,b37,b38,b39,b40,b41,b42,b43,b44,b45,b46,b47,b48,b49,b50,b51,b52,x35,x36,x37,x38,x39,x40,x41,x42,x43,x44,x45,x46,x47,x48,x49,x50,x51,x52,x53,x54,x55,x56,x57,x58,x59,x60,x61,x62,x63,x64,x65,x66,x67,x68,x69,x70,x71,x72,x73,x74,x75,x76,x77,x78,x79,x80,x81,x82,x83,x84,x85,x86,x87,ge,a80,c80,gl,a85,c85,rfl,rfl,hb,cd0,cd1,cd2,cd3,cd4,cd5,cd6,cd7,cd8,cd9,cd10,cd11,cd12,cd13,cd14,cd15,cd16,cd17,cd18,cd19,cd20,cd21,cd22,cd23,cd24,cd25,cd26,cd27,cd28,cd29,cd30,cd31,cd32,cd33,cd34,cd35,cd36,cd37,cd38,cd39,cd40,cd41,cd42,cd43,cd44,cd45,cd46,cd47,cd48,cd49,cd50,cd51,cd52,wf43,wf45,wf49,wf50⟩ hf hd
        have hf' : b3 = false := hf
        subst hf'
        have d2 : b2 = true := hd ⟨2, .guard⟩ (by simp) rfl
        subst d2
        obtain rfl := cd2.out rfl
        clear hf hd
        try simp only [sI, s0, s1]
        intro K hK
        rw [if_pos (by rfl)]
        refine wp_load_at 27 _ rfl ⟨g, 0, none⟩ rfl r (hg.past hb).at_ _ _ u24 (hash_size _ HR) ?_
        exact hK.out _ _ ⟨b0, b1, true, true, b4, b5, b6, b7, b8, b9, b10, b11, b12, b13, b14, b15, b16, b17, b18, b19, b20, b21, b22, b23, b24, b25, b26, b27, b28, b29, b30, b31, b32, b33, b34, b35, b36, b37, b38, b39, b40, b41, b42, b43, b44, b45, b46, b47, b48, b49, b50, b51, b52, x35, x36, .bool false, (.agg (bcs r).toArray), x39, x40, x41, x42, x43, x44, x45, x46, x47, x48, x49, x50, x51, x52, x53, x54, x55, x56, x57, x58, x59, x60, x61, x62, x63, x64, x65, x66, x67, x68, x69, x70, x71, x72, x73, x74, x75, x76, x77, x78, x79, x80, x81, x82, x83, x84, x85, x86, x87, ge, a80, c80, gl, a85, c85, (by simp only [Act.put, sI, s0, s1]), (by simp only [Act.put, sI, s0, s1]), hb, cd0, cd1, (fun _ => rfl), (fun _ => rfl), cd4, cd5, cd6, cd7, cd8, cd9, cd10, cd11, cd12, cd13, cd14, cd15, cd16, cd17, cd18, cd19, cd20, cd21, cd22, cd23, cd24, cd25, cd26, cd27, cd28, cd29, cd30, cd31, cd32, cd33, cd34, cd35, cd36, cd37, cd38, cd39, cd40, cd41, cd42, cd43, cd44, cd45, cd46, cd47, cd48, cd49, cd50, cd51, cd52, wf43, wf45, wf49, wf50⟩
      · rintro L a w ⟨b0,b1,b2,b3,b4,b5,b6,b7,b8,b9,b10,b11,b12,b13,b14,b15,b16,b17,b18,b19,b20,b21,b22,b23,b24,b25,b26,b27,b28,b29,b30,b31,b32,b33,b34,b35,b36,b37,b38,b39,b40,b41,b42,b43,b44,b45,b46,b47,b48,b49,b50,b51,b52,x35,x36,x37,x38,x39,x40,x41,x42,x43,x44,x45,x46,x47,x48,x49,x50,x51,x52,x53,x54,x55,x56,x57,x58,x59,x60,x61,x62,x63,x64,x65,x66,x67,x68,x69,x70,x71,x72,x73,x74,x75,x76,x77,x78,x79,x80,x81,x82,x83,x84,x85,x86,x87,ge,a80,c80,gl,a85,c85,rfl,rfl,hb,cd0,cd1,cd2,cd3,cd4,cd5,cd6,cd7,cd8,cd9,cd10,cd11,cd12,cd13,cd14,cd15,cd16,cd17,cd18,cd19,cd20,cd21,cd22,cd23,cd24,cd25,cd26,cd27,cd28,cd29,cd30,cd31,cd32,cd33,cd34,cd35,cd36,cd37,cd38,cd39,cd40,cd41,cd42,cd43,cd44,cd45,cd46,cd47,cd48,cd49,cd50,cd51,cd52,wf43,wf45,wf49,wf50⟩ hf hd
        have hf' : b4 = false := hf
        subst hf'
        have d2 : b2 = true := hd ⟨2, .guard⟩ (by simp) rfl
        subst d2
        obtain rfl := cd2.out rfl
        clear hf hd
        try simp only [sI, s0, s1]
        intro K hK
        rw [if_pos (by rfl)]
        go_simp
        exact hK.out _ _ ⟨b0, b1, true, b3, true, b5, b6, b7, b8, b9, b10, b11, b12, b13, b14, b15, b16, b17, b18, b19, b20, b21, b22, b23, b24, b25, b26, b27, b28, b29, b30, b31, b32, b33, b34, b35, b36, b37, b38, b39, b40, b41, b42, b43, b44, b45, b46, b47, b48, b49, b50, b51, b52, x35, x36, .bool false, x38, (.slice (some al) n c), x40, x41, x42, x43, x44, x45, x46, x47, x48, x49, x50, x51, x52, x53, x54, x55, x56, x57, x58, x59, x60, x61, x62, x63, x64, x65, x66, x67, x68, x69, x70, x71, x72, x73, x74, x75, x76, x77, x78, x79, x80, x81, x82, x83, x84, x85, x86, x87, ge, a80, c80, gl, a85, c85, (by simp only [Act.put, sI, s0, s1]), (by simp only [Act.put, sI, s0, s1]), hb, cd0, cd1, (fun _ => rfl), cd3, (fun _ => rfl), cd5, cd6, cd7, cd8, cd9, cd10, cd11, cd12, cd13, cd14, cd15, cd16, cd17, cd18, cd19, cd20, cd21, cd22, cd23, cd24, cd25, cd26, cd27, cd28, cd29, cd30, cd31, cd32, cd33, cd34, cd35, cd36, cd37, cd38, cd39, cd40, cd41, cd42, cd43, cd44, cd45, cd46, cd47, cd48, cd49, cd50, cd51, cd52, wf43, wf45, wf49, wf50⟩
      · rintro L a w ⟨b0,b1,b2,b3,b4,b5,b6,b7,b8,b9,b10,b11,b12,b13,b14,b15,b16,b17,b18,b19,b20,b21,b22,b23,b24,b25,b26,b27,b28,b29,b30,b31,b32,b33,b34,b35,b36,b37,b38,b39,b40,b41,b42,b43,b44,b45,b46,b47,b48,b49,b50,b51,b52,x35,x36,x37,x38,x39,x40,x41,x42,x43,x44,x45,x46,x47,x48,x49,x50,x51,x52,x53,x54,x55,x56,x57,x58,x59,x60,x61,x62,x63,x64,x65,x66,x67,x68,x69,x70,x71,x72,x73,x74,x75,x76,x77,x78,x79,x80,x81,x82,x83,x84,x85,x86,x87,ge,a80,c80,gl,a85,c85,rfl,rfl,hb,cd0,cd1,cd2,cd3,cd4,cd5,cd6,cd7,cd8,cd9,cd10,cd11,cd12,cd13,cd14,cd15,cd16,cd17,cd18,cd19,cd20,cd21,cd22,cd23,cd24,cd25,cd26,cd27,cd28,cd29,cd30,cd31,cd32,cd33,cd34,cd35,cd36,cd37,cd38,cd39,cd40,cd41,cd42,cd43,cd44,cd45,cd46,cd47,cd48,cd49,cd50,cd51,cd52,wf43,wf45,wf49,wf50⟩ hf hd
        have hf' : b5 = false := hf
        subst hf'
        have d2 : b2 = true := hd ⟨2, .guard⟩ (by simp) rfl
        subst d2
        obtain rfl := cd2.out rfl
        clear hf hd
        try simp only [sI, s0, s1]
        intro K hK
        rw [if_pos (by rfl)]
        go_simp
        exact hK.out _ _ ⟨b0, b1, true, b3, b4, true, b6, b7, b8, b9, b10, b11, b12, b13, b14, b15, b16, b17, b18, b19, b20, b21, b22, b23, b24, b25, b26, b27, b28, b29, b30, b31, b32, b33, b34, b35, b36, b37, b38, b39, b40, b41, b42, b43, b44, b45, b46, b47, b48, b49, b50, b51, b52, x35, x36, .bool false, x38, x39, (.int .i64 (i : Nat)), x41, x42, x43, x44, x45, x46, x47, x48, x49, x50, x51, x52, x53, x54, x55, x56, x57, x58, x59, x60, x61, x62, x63, x64, x65, x66, x67, x68, x69, x70, x71, x72, x73, x74, x75, x76, x77, x78, x79, x80, x81, x82, x83, x84, x85, x86, x87, ge, a80, c80, gl, a85, c85, (by simp only [Act.put, sI, s0, s1]), (by simp only [Act.put, sI, s0, s1]), hb, cd0, cd1, (fun _ => rfl), cd3, cd4, (fun _ => rfl), cd6, cd7, cd8, cd9, cd10, cd11, cd12, cd13, cd14, cd15, cd16, cd17, cd18, cd19, cd20, cd21, cd22, cd23, cd24, cd25, cd26, cd27, cd28, cd29, cd30, cd31, cd32, cd33, cd34, cd35, cd36, cd37, cd38, cd39, cd40, cd41, cd42, cd43, cd44, cd45, cd46, cd47, cd48, cd49, cd50, cd51, cd52, wf43, wf45, wf49, wf50⟩
      · rintro L a w ⟨b0,b1,b2,b3,b4,b5,b6,b7,b8,b9,b10,b11,b12,b13,b14,b15,b16,b17,b18,b19,b20,b21,b22,b23,b24,b25,b26,b27,b28,b29,b30,b31,b32,b33,b34,b35,b36,b37,b38,b39,b40,b41,b42,b43,b44,b45,b46,b47,b48,b49,b50,b51,b52,x35,x36,x37,x38,x39,x40,x41,x42,x43,x44,x45,x46,x47,x48,x49,x50,x51,x52,x53,x54,x55,x56,x57,x58,x59,x60,x61,x62,x63,x64,x65,x66,x67,x68,x69,x70,x71,x72,x73,x74,x75,x76,x77,x78,x79,x80,x81,x82,x83,x84,x85,x86,x87,ge,a80,c80,gl,a85,c85,rfl,rfl,hb,cd0,cd1,cd2,cd3,cd4,cd5,cd6,cd7,cd8,cd9,cd10,cd11,cd12,cd13,cd14,cd15,cd16,cd17,cd18,cd19,cd20,cd21,cd22,cd23,cd24,cd25,cd26,cd27,cd28,cd29,cd30,cd31,cd32,cd33,cd34,cd35,cd36,cd37,cd38,cd39,cd40,cd41,cd42,cd43,cd44,cd45,cd46,cd47,cd48,cd49,cd50,cd51,cd52,wf43,wf45,wf49,wf50⟩ hf hd
        have hf' : b6 = false := hf
        subst hf'
        have d4 : b4 = true := hd ⟨4, .data⟩ (by simp) rfl
        subst d4
        have d5 : b5 = true := hd ⟨5, .data⟩ (by simp) rfl
        subst d5
        have d2 : b2 = true := hd ⟨2, .guard⟩ (by simp) rfl
        subst d2
        obtain rfl := cd4.out rfl
        obtain rfl := cd5.out rfl
        obtain rfl := cd2.out rfl
        clear hf hd
        try simp only [sI, s0, s1]
        intro K hK
        rw [if_pos (by rfl)]
        go_simp
        exact hK.out _ _ ⟨b0, b1, true, b3, true, true, true, b7, b8, b9, b10, b11, b12, b13, b14, b15, b16, b17, b18, b19, b20, b21, b22, b23, b24, b25, b26, b27, b28, b29, b30, b31, b32, b33, b34, b35, b36, b37, b38, b39, b40, b41, b42, b43, b44, b45, b46, b47, b48, b49, b50, b51, b52, x35, x36, .bool false, x38, .slice (some al) n c, .int .i64 (i : Nat), (.pointer (some (al.add (i * 32)))), x42, x43, x44, x45, x46, x47, x48, x49, x50, x51, x52, x53, x54, x55, x56, x57, x58, x59, x60, x61, x62, x63, x64, x65, x66, x67, x68, x69, x70, x71, x72, x73, x74, x75, x76, x77, x78, x79, x80, x81, x82, x83, x84, x85, x86, x87, ge, a80, c80, gl, a85, c85, (by simp only [Act.put, sI, s0, s1]), (by simp only [Act.put, sI, s0, s1]), hb, cd0, cd1, (fun _ => rfl), cd3, (fun _ => rfl), (fun _ => rfl), (fun _ => rfl), cd7, cd8, cd9, cd10, cd11, cd12, cd13, cd14, cd15, cd16, cd17, cd18, cd19, cd20, cd21, cd22, cd23, cd24, cd25, cd26, cd27, cd28, cd29, cd30, cd31, cd32, cd33, cd34, cd35, cd36, cd37, cd38, cd39, cd40, cd41, cd42, cd43, cd44, cd45, cd46, cd47, cd48, cd49, cd50, cd51, cd52, wf43, wf45, wf49, wf50⟩
      · rintro L a w ⟨b0,b1,b2,b3,b4,b5,b6,b7,b8,b9,b10,b11,b12,b13,b14,b15,b16,b17,b18,b19,b20,b21,b22,b23,b24,b25,b26,b27,b28,b29,b30,b31,b32,b33,b34,b35,b36,b37,b38,b39,b40,b41,b42,b43,b44,b45,b46,b47,b48,b49,b50,b51,b52,x35,x36,x37,x38,x39,x40,x41,x42,x43,x44,x45,x46,x47,x48,x49,x50,x51,x52,x53,x54,x55,x56,x57,x58,x59,x60,x61,x62,x63,x64,x65,x66,x67,x68,x69,x70,x71,x72,x73,x74,x75,x76,x77,x78,x79,x80,x81,x82,x83,x84,x85,x86,x87,ge,a80,c80,gl,a85,c85,rfl,rfl,hb,cd0,cd1,cd2,cd3,cd4,cd5,cd6,cd7,cd8,cd9,cd10,cd11,cd12,cd13,cd14,cd15,cd16,cd17,cd18,cd19,cd20,cd21,cd22,cd23,cd24,cd25,cd26,cd27,cd28,cd29,cd30,cd31,cd32,cd33,cd34,cd35,cd36,cd37,cd38,cd39,cd40,cd41,cd42,cd43,cd44,cd45,cd46,cd47,cd48,cd49,cd50,cd51,cd52,wf43,wf45,wf49,wf50⟩ hf hd
        have hf' : b7 = false := hf
        subst hf'
        have d6 : b6 = true := hd ⟨6, .data⟩ (by simp) rfl
        subst d6
        have d2 : b2 = true := hd ⟨2, .guard⟩ (by simp) rfl
        subst d2
        obtain rfl := cd6.out rfl
        obtain rfl := cd2.out rfl
        clear hf hd
        try simp only [sI, s0, s1]
        intro K hK
        rw [if_pos (by rfl)]
        refine wp_load_at 27 _ rfl (al.add (i * 32)) rfl li (tI.past hb) _ _ u24 (hash_size _ hI32) ?_
        exact hK.out _ _ ⟨b0, b1, true, b3, b4, b5, true, true, b8, b9, b10, b11, b12, b13, b14, b15, b16, b17, b18, b19, b20, b21, b22, b23, b24, b25, b26, b27, b28, b29, b30, b31, b32, b33, b34, b35, b36, b37, b38, b39, b40, b41, b42, b43, b44, b45, b46, b47, b48, b49, b50, b51, b52, x35, x36, .bool false, x38, x39, x40, .pointer (some (al.add (i * 32))), (.agg (bcs li).toArray), x43, x44, x45, x46, x47, x48, x49, x50, x51, x52, x53, x54, x55, x56, x57, x58, x59, x60, x61, x62, x63, x64, x65, x66, x67, x68, x69, x70, x71, x72, x73, x74, x75, x76, x77, x78, x79, x80, x81, x82, x83, x84, x85, x86, x87, ge, a80, c80, gl, a85, c85, (by simp only [Act.put, sI, s0, s1]), (by simp only [Act.put, sI, s0, s1]), hb, cd0, cd1, (fun _ => rfl), cd3, cd4, cd5, (fun _ => rfl), (fun _ => rfl), cd8, cd9, cd10, cd11, cd12, cd13, cd14, cd15, cd16, cd17, cd18, cd19, cd20, cd21, cd22, cd23, cd24, cd25, cd26, cd27, cd28, cd29, cd30, cd31, cd32, cd33, cd34, cd35, cd36, cd37, cd38, cd39, cd40, cd41, cd42, cd43, cd44, cd45, cd46, cd47, cd48, cd49, cd50, cd51, cd52, wf43, wf45, wf49, wf50⟩
      · rintro L a w ⟨b0,b1,b2,b3,b4,b5,b6,b7,b8,b9,b10,b11,b12,b13,b14,b15,b16,b17,b18,b19,b20,b21,b22,b23,b24,b25,b26,b27,b28,b29,b30,b31,b32,b33,b34,b35,b36,b37,b38,b39,b40,b41,b42,b43,b44,b45,b46,b47,b48,b49,b50,b51,b52,x35,x36,x37,x38,x39,x40,x41,x42,x43,x44,x45,x46,x47,x48,x49,x50,x51,x52,x53,x54,x55,x56,x57,x58,x59,x60,x61,x62,x63,x64,x65,x66,x67,x68,x69,x70,x71,x72,x73,x74,x75,x76,x77,x78,x79,x80,x81,x82,x83,x84,x85,x86,x87,ge,a80,c80,gl,a85,c85,rfl,rfl,hb,cd0,cd1,cd2,cd3,cd4,cd5,cd6,cd7,cd8,cd9,cd10,cd11,cd12,cd13,cd14,cd15,cd16,cd17,cd18,cd19,cd20,cd21,cd22,cd23,cd24,cd25,cd26,cd27,cd28,cd29,cd30,cd31,cd32,cd33,cd34,cd35,cd36,cd37,cd38,cd39,cd40,cd41,cd42,cd43,cd44,cd45,cd46,cd47,cd48,cd49,cd50,cd51,cd52,wf43,wf45,wf49,wf50⟩ hf hd
        have hf' : b8 = false := hf
        subst hf'
        have d2 : b2 = true := hd ⟨2, .guard⟩ (by simp) rfl
        subst d2
        obtain rfl := cd2.out rfl
        clear hf hd
        try simp only [sI, s0, s1]
        intro K hK
        rw [if_pos (by rfl)]
        go_simp
        exact hK.out _ _ ⟨b0, b1, true, b3, b4, b5, b6, b7, true, b9, b10, b11, b12, b13, b14, b15, b16, b17, b18, b19, b20, b21, b22, b23, b24, b25, b26, b27, b28, b29, b30, b31, b32, b33, b34, b35, b36, b37, b38, b39, b40, b41, b42, b43, b44, b45, b46, b47, b48, b49, b50, b51, b52, x35, x36, .bool false, x38, x39, x40, x41, x42, (.int .i64 (i : Nat)), x44, x45, x46, x47, x48, x49, x50, x51, x52, x53, x54, x55, x56, x57, x58, x59, x60, x61, x62, x63, x64, x65, x66, x67, x68, x69, x70, x71, x72, x73, x74, x75, x76, x77, x78, x79, x80, x81, x82, x83, x84, x85, x86, x87, ge, a80, c80, gl, a85, c85, (by simp only [Act.put, sI, s0, s1]), (by simp only [Act.put, sI, s0, s1]), hb, cd0, cd1, (fun _ => rfl), cd3, cd4, cd5, cd6, cd7, (fun _ => rfl), cd9, cd10, cd11, cd12, cd13, cd14, cd15, cd16, cd17, cd18, cd19, cd20, cd21, cd22, cd23, cd24, cd25, cd26, cd27, cd28, cd29, cd30, cd31, cd32, cd33, cd34, cd35, cd36, cd37, cd38, cd39, cd40, cd41, cd42, cd43, cd44, cd45, cd46, cd47, cd48, cd49, cd50, cd51, cd52, wf43, wf45, wf49, wf50⟩
      · rintro L a w ⟨b0,b1,b2,b3,b4,b5,b6,b7,b8,b9,b10,b11,b12,b13,b14,b15,b16,b17,b18,b19,b20,b21,b22,b23,b24,b25,b26,b27,b28,b29,b30,b31,b32,b33,b34,b35,b36,b37,b38,b39,b40,b41,b42,b43,b44,b45,b46,b47,b48,b49,b50,b51,b52,x35,x36,x37,x38,x39,x40,x41,x42,x43,x44,x45,x46,x47,x48,x49,x50,x51,x52,x53,x54,x55,x56,x57,x58,x59,x60,x61,x62,x63,x64,x65,x66,x67,x68,x69,x70,x71,x72,x73,x74,x75,x76,x77,x78,x79,x80,x81,x82,x83,x84,x85,x86,x87,ge,a80,c80,gl,a85,c85,rfl,rfl,hb,cd0,cd1,cd2,cd3,cd4,cd5,cd6,cd7,cd8,cd9,cd10,cd11,cd12,cd13,cd14,cd15,cd16,cd17,cd18,cd19,cd20,cd21,cd22,cd23,cd24,cd25,cd26,cd27,cd28,cd29,cd30,cd31,cd32,cd33,cd34,cd35,cd36,cd37,cd38,cd39,cd40,cd41,cd42,cd43,cd44,cd45,cd46,cd47,cd48,cd49,cd50,cd51,cd52,wf43,wf45,wf49,wf50⟩ hf hd
        have hf' : b9 = false := hf
        subst hf'
        have d2 : b2 = true := hd ⟨2, .guard⟩ (by simp) rfl
        subst d2
        obtain rfl := cd2.out rfl
        clear hf hd
        try simp only [sI, s0, s1]
        intro K hK
        rw [if_pos (by rfl)]
        go_simp
        exact hK.out _ _ ⟨b0, b1, true, b3, b4, b5, b6, b7, b8, true, b10, b11, b12, b13, b14, b15, b16, b17, b18, b19, b20, b21, b22, b23, b24, b25, b26, b27, b28, b29, b30, b31, b32, b33, b34, b35, b36, b37, b38, b39, b40, b41, b42, b43, b44, b45, b46, b47, b48, b49, b50, b51, b52, x35, x36, .bool false, x38, x39, x40, x41, x42, x43, (.int .i64 (n : Nat)), x45, x46, x47, x48, x49, x50, x51, x52, x53, x54, x55, x56, x57, x58, x59, x60, x61, x62, x63, x64, x65, x66, x67, x68, x69, x70, x71, x72, x73, x74, x75, x76, x77, x78, x79, x80, x81, x82, x83, x84, x85, x86, x87, ge, a80, c80, gl, a85, c85, (by simp only [Act.put, sI, s0, s1]), (by simp only [Act.put, sI, s0, s1]), hb, cd0, cd1, (fun _ => rfl), cd3, cd4, cd5, cd6, cd7, cd8, (fun _ => rfl), cd10, cd11, cd12, cd13, cd14, cd15, cd16, cd17, cd18, cd19, cd20, cd21, cd22, cd23, cd24, cd25, cd26, cd27, cd28, cd29, cd30, cd31, cd32, cd33, cd34, cd35, cd36, cd37, cd38, cd39, cd40, cd41, cd42, cd43, cd44, cd45, cd46, cd47, cd48, cd49, cd50, cd51, cd52, wf43, wf45, wf49, wf50⟩
      · rintro L a w ⟨b0,b1,b2,b3,b4,b5,b6,b7,b8,b9,b10,b11,b12,b13,b14,b15,b16,b17,b18,b19,b20,b21,b22,b23,b24,b25,b26,b27,b28,b29,b30,b31,b32,b33,b34,b35,b36,b37,b38,b39,b40,b41,b42,b43,b44,b45,b46,b47,b48,b49,b50,b51,b52,x35,x36,x37,x38,x39,x40,x41,x42,x43,x44,x45,x46,x47,x48,x49,x50,x51,x52,x53,x54,x55,x56,x57,x58,x59,x60,x61,x62,x63,x64,x65,x66,x67,x68,x69,x70,x71,x72,x73,x74,x75,x76,x77,x78,x79,x80,x81,x82,x83,x84,x85,x86,x87,ge,a80,c80,gl,a85,c85,rfl,rfl,hb,cd0,cd1,cd2,cd3,cd4,cd5,cd6,cd7,cd8,cd9,cd10,cd11,cd12,cd13,cd14,cd15,cd16,cd17,cd18,cd19,cd20,cd21,cd22,cd23,cd24,cd25,cd26,cd27,cd28,cd29,cd30,cd31,cd32,cd33,cd34,cd35,cd36,cd37,cd38,cd39,cd40,cd41,cd42,cd43,cd44,cd45,cd46,cd47,cd48,cd49,cd50,cd51,cd52,wf43,wf45,wf49,wf50⟩ hf hd
        have hf' : b10 = false := hf
        subst hf'
        have d2 : b2 = true := hd ⟨2, .guard⟩ (by simp) rfl
        subst d2
        obtain rfl := cd2.out rfl
        clear hf hd
        try simp only [sI, s0, s1]
        intro K hK
        rw [if_pos (by rfl)]
        go_simp
        exact hK.out _ _ ⟨b0, b1, true, b3, b4, b5, b6, b7, b8, b9, true, b11, b12, b13, b14, b15, b16, b17, b18, b19, b20, b21, b22, b23, b24, b25, b26, b27, b28, b29, b30, b31, b32, b33, b34, b35, b36, b37, b38, b39, b40, b41, b42, b43, b44, b45, b46, b47, b48, b49, b50, b51, b52, x35, x36, .bool false, x38, x39, x40, x41, x42, x43, x44, (.slice ap m cp), x46, x47, x48, x49, x50, x51, x52, x53, x54, x55, x56, x57, x58, x59, x60, x61, x62, x63, x64, x65, x66, x67, x68, x69, x70, x71, x72, x73, x74, x75, x76, x77, x78, x79, x80, x81, x82, x83, x84, x85, x86, x87, ge, a80, c80, gl, a85, c85, (by simp only [Act.put, sI, s0, s1]), (by simp only [Act.put, sI, s0, s1]), hb, cd0, cd1, (fun _ => rfl), cd3, cd4, cd5, cd6, cd7, cd8, cd9, (fun _ => rfl), cd11, cd12, cd13, cd14, cd15, cd16, cd17, cd18, cd19, cd20, cd21, cd22, cd23, cd24, cd25, cd26, cd27, cd28, cd29, cd30, cd31, cd32, cd33, cd34, cd35, cd36, cd37, cd38, cd39, cd40, cd41, cd42, cd43, cd44, cd45, cd46, cd47, cd48, cd49, cd50, cd51, cd52, wf43, wf45, wf49, wf50⟩
      · rintro L a w ⟨b0,b1,b2,b3,b4,b5,b6,b7,b8,b9,b10,b11,b12,b13,b14,b15,b16,b17,b18,b19,b20,b21,b22,b23,b24,b25,b26,b27,b28,b29,b30,b31,b32,b33,b34,b35,b36,b37,b38,b39,b40,b41,b42,b43,b44,b45,b46,b47,b48,b49,b50,b51,b52,x35,x36,x37,x38,x39,x40,x41,x42,x43,x44,x45,x46,x47,x48,x49,x50,x51,x52,x53,x54,x55,x56,x57,x58,x59,x60,x61,x62,x63,x64,x65,x66,x67,x68,x69,x70,x71,x72,x73,x74,x75,x76,x77,x78,x79,x80,x81,x82,x83,x84,x85,x86,x87,ge,a80,c80,gl,a85,c85,rfl,rfl,hb,cd0,cd1,cd2,cd3,cd4,cd5,cd6,cd7,cd8,cd9,cd10,cd11,cd12,cd13,cd14,cd15,cd16,cd17,cd18,cd19,cd20,cd21,cd22,cd23,cd24,cd25,cd26,cd27,cd28,cd29,cd30,cd31,cd32,cd33,cd34,cd35,cd36,cd37,cd38,cd39,cd40,cd41,cd42,cd43,cd44,cd45,cd46,cd47,cd48,cd49,cd50,cd51,cd52,wf43,wf45,wf49,wf50⟩ hf hd
        have hf' : b11 = false := hf
        subst hf'
        have d3 : b3 = true := hd ⟨3, .data⟩ (by simp) rfl
        subst d3
        have d7 : b7 = true := hd ⟨7, .data⟩ (by simp) rfl
        subst d7
        have d8 : b8 = true := hd ⟨8, .data⟩ (by simp) rfl
        subst d8
        have d9 : b9 = true := hd ⟨9, .data⟩ (by simp) rfl
        subst d9
        have d10 : b10 = true := hd ⟨10, .data⟩ (by simp) rfl
        subst d10
        have d2 : b2 = true := hd ⟨2, .chain⟩ (by simp) rfl
        subst d2
        obtain rfl := cd3.out rfl
        obtain rfl := cd7.out rfl
        obtain rfl := cd8.out rfl
        obtain rfl := cd9.out rfl
        obtain rfl := cd10.out rfl
        obtain rfl := cd2.out rfl
        clear hf hd
        try simp only [sI, s0, s1]
        intro K hK
        rw [if_pos (by rfl)]
        go_simp
        go_at_call 9
        refine (M1 _ (hC.past hb) (hP.past hb)).mono ?_
        rintro e w2 ⟨rfl, bx⟩
        exact hK.out _ _ ⟨b0, b1, true, true, b4, b5, b6, true, true, true, true, true, b12, b13, b14, b15, b16, b17, b18, b19, b20, b21, b22, b23, b24, b25, b26, b27, b28, b29, b30, b31, b32, b33, b34, b35, b36, b37, b38, b39, b40, b41, b42, b43, b44, b45, b46, b47, b48, b49, b50, b51, b52, x35, x36, .bool false, .agg (bcs r).toArray, x39, x40, x41, .agg (bcs li).toArray, .int .i64 (i : Nat), .int .i64 (n : Nat), .slice ap m cp, (.bool true), x47, x48, x49, x50, x51, x52, x53, x54, x55, x56, x57, x58, x59, x60, x61, x62, x63, x64, x65, x66, x67, x68, x69, x70, x71, x72, x73, x74, x75, x76, x77, x78, x79, x80, x81, x82, x83, x84, x85, x86, x87, ge, a80, c80, gl, a85, c85, (by simp only [Act.put, sI, s0, s1]), (by simp only [Act.put, sI, s0, s1]), hb.trans (bx.mono hb.size), cd0, cd1, (fun _ => rfl), (fun _ => rfl), cd4, cd5, cd6, (fun _ => rfl), (fun _ => rfl), (fun _ => rfl), (fun _ => rfl), (fun _ => rfl), cd12, cd13, cd14, cd15, cd16, cd17, cd18, cd19, cd20, cd21, cd22, cd23, cd24, cd25, cd26, cd27, cd28, cd29, cd30, cd31, cd32, cd33, cd34, cd35, cd36, cd37, cd38, cd39, cd40, cd41, cd42, cd43, cd44, cd45, cd46, cd47, cd48, cd49, cd50, cd51, cd52, (fun h h2 => (wf43.out h h2).past bx), (fun h h2 => (wf45.out h h2).past bx), (fun h h2 => (wf49.out h h2).past bx), (fun h => (wf50.out h).past bx)⟩
      · rintro L a w ⟨b0,b1,b2,b3,b4,b5,b6,b7,b8,b9,b10,b11,b12,b13,b14,b15,b16,b17,b18,b19,b20,b21,b22,b23,b24,b25,b26,b27,b28,b29,b30,b31,b32,b33,b34,b35,b36,b37,b38,b39,b40,b41,b42,b43,b44,b45,b46,b47,b48,b49,b50,b51,b52,x35,x36,x37,x38,x39,x40,x41,x42,x43,x44,x45,x46,x47,x48,x49,x50,x51,x52,x53,x54,x55,x56,x57,x58,x59,x60,x61,x62,x63,x64,x65,x66,x67,x68,x69,x70,x71,x72,x73,x74,x75,x76,x77,x78,x79,x80,x81,x82,x83,x84,x85,x86,x87,ge,a80,c80,gl,a85,c85,rfl,rfl,hb,cd0,cd1,cd2,cd3,cd4,cd5,cd6,cd7,cd8,cd9,cd10,cd11,cd12,cd13,cd14,cd15,cd16,cd17,cd18,cd19,cd20,cd21,cd22,cd23,cd24,cd25,cd26,cd27,cd28,cd29,cd30,cd31,cd32,cd33,cd34,cd35,cd36,cd37,cd38,cd39,cd40,cd41,cd42,cd43,cd44,cd45,cd46,cd47,cd48,cd49,cd50,cd51,cd52,wf43,wf45,wf49,wf50⟩ hf hd
        have hf' : b12 = false := hf
        subst hf'
        have d11 : b11 = true := hd ⟨11, .data⟩ (by simp) rfl
        subst d11
        have d2 : b2 = true := hd ⟨2, .guard⟩ (by simp) rfl
        subst d2
        obtain rfl := cd11.out rfl
        obtain rfl := cd2.out rfl
        clear hf hd
        try simp only [sI, s0, s1]
        intro K hK
        rw [if_pos (by rfl)]
        go_simp
        exact hK.out _ _ ⟨b0, b1, true, b3, b4, b5, b6, b7, b8, b9, b10, true, true, b13, b14, b15, b16, b17, b18, b19, b20, b21, b22, b23, b24, b25, b26, b27, b28, b29, b30, b31, b32, b33, b34, b35, b36, b37, b38, b39, b40, b41, b42, b43, b44, b45, b46, b47, b48, b49, b50, b51, b52, x35, x36, .bool false, x38, x39, x40, x41, x42, x43, x44, x45, .bool true, (.bool false), x48, x49, x50, x51, x52, x53, x54, x55, x56, x57, x58, x59, x60, x61, x62, x63, x64, x65, x66, x67, x68, x69, x70, x71, x72, x73, x74, x75, x76, x77, x78, x79, x80, x81, x82, x83, x84, x85, x86, x87, ge, a80, c80, gl, a85, c85, (by simp only [Act.put, sI, s0, s1]), (by simp only [Act.put, sI, s0, s1]), hb, cd0, cd1, (fun _ => rfl), cd3, cd4, cd5, cd6, cd7, cd8, cd9, cd10, (fun _ => rfl), (fun _ => rfl), cd13, cd14, cd15, cd16, cd17, cd18, cd19, cd20, cd21, cd22, cd23, cd24, cd25, cd26, cd27, cd28, cd29, cd30, cd31, cd32, cd33, cd34, cd35, cd36, cd37, cd38, cd39, cd40, cd41, cd42, cd43, cd44, cd45, cd46, cd47, cd48, cd49, cd50, cd51, cd52, wf43, wf45, wf49, wf50⟩
      · rintro L a w ⟨b0,b1,b2,b3,b4,b5,b6,b7,b8,b9,b10,b11,b12,b13,b14,b15,b16,b17,b18,b19,b20,b21,b22,b23,b24,b25,b26,b27,b28,b29,b30,b31,b32,b33,b34,b35,b36,b37,b38,b39,b40,b41,b42,b43,b44,b45,b46,b47,b48,b49,b50,b51,b52,x35,x36,x37,x38,x39,x40,x41,x42,x43,x44,x45,x46,x47,x48,x49,x50,x51,x52,x53,x54,x55,x56,x57,x58,x59,x60,x61,x62,x63,x64,x65,x66,x67,x68,x69,x70,x71,x72,x73,x74,x75,x76,x77,x78,x79,x80,x81,x82,x83,x84,x85,x86,x87,ge,a80,c80,gl,a85,c85,rfl,rfl,hb,cd0,cd1,cd2,cd3,cd4,cd5,cd6,cd7,cd8,cd9,cd10,cd11,cd12,cd13,cd14,cd15,cd16,cd17,cd18,cd19,cd20,cd21,cd22,cd23,cd24,cd25,cd26,cd27,cd28,cd29,cd30,cd31,cd32,cd33,cd34,cd35,cd36,cd37,cd38,cd39,cd40,cd41,cd42,cd43,cd44,cd45,cd46,cd47,cd48,cd49,cd50,cd51,cd52,wf43,wf45,wf49,wf50⟩ hf hd
        have hf' : b13 = false := hf
        subst hf'
        have d2 : b2 = true := hd ⟨2, .data⟩ (by simp) rfl
        subst d2
        have d12 : b12 = true := hd ⟨12, .data⟩ (by simp) rfl
        subst d12
        obtain rfl := cd2.out rfl
        obtain rfl := cd12.out rfl
        clear hf hd
        try simp only [sI, s0, s1]
        intro K hK
        rw [if_pos (by rfl)]
        go_simp
        exact hK.out _ _ ⟨b0, b1, true, b3, b4, b5, b6, b7, b8, b9, b10, b11, true, true, b14, b15, b16, b17, b18, b19, b20, b21, b22, b23, b24, b25, b26, b27, b28, b29, b30, b31, b32, b33, b34, b35, b36, b37, b38, b39, b40, b41, b42, b43, b44, b45, b46, b47, b48, b49, b50, b51, b52, x35, x36, .bool false, x38, x39, x40, x41, x42, x43, x44, x45, x46, .bool false, (.bool false), x49, x50, x51, x52, x53, x54, x55, x56, x57, x58, x59, x60, x61, x62, x63, x64, x65, x66, x67, x68, x69, x70, x71, x72, x73, x74, x75, x76, x77, x78, x79, x80, x81, x82, x83, x84, x85, x86, x87, ge, a80, c80, gl, a85, c85, (by simp only [Act.put, sI, s0, s1]), (by simp only [Act.put, sI, s0, s1]), hb, cd0, cd1, (fun _ => rfl), cd3, cd4, cd5, cd6, cd7, cd8, cd9, cd10, cd11, (fun _ => rfl), (fun _ => rfl), cd14, cd15, cd16, cd17, cd18, cd19, cd20, cd21, cd22, cd23, cd24, cd25, cd26, cd27, cd28, cd29, cd30, cd31, cd32, cd33, cd34, cd35, cd36, cd37, cd38, cd39, cd40, cd41, cd42, cd43, cd44, cd45, cd46, cd47, cd48, cd49, cd50, cd51, cd52, wf43, wf45, wf49, wf50⟩
      · rintro L a w ⟨b0,b1,b2,b3,b4,b5,b6,b7,b8,b9,b10,b11,b12,b13,b14,b15,b16,b17,b18,b19,b20,b21,b22,b23,b24,b25,b26,b27,b28,b29,b30,b31,b32,b33,b34,b35,b36,b37,b38,b39,b40,b41,b42,b43,b44,b45,b46,b47,b48,b49,b50,b51,b52,x35,x36,x37,x38,x39,x40,x41,x42,x43,x44,x45,x46,x47,x48,x49,x50,x51,x52,x53,x54,x55,x56,x57,x58,x59,x60,x61,x62,x63,x64,x65,x66,x67,x68,x69,x70,x71,x72,x73,x74,x75,x76,x77,x78,x79,x80,x81,x82,x83,x84,x85,x86,x87,ge,a80,c80,gl,a85,c85,rfl,rfl,hb,cd0,cd1,cd2,cd3,cd4,cd5,cd6,cd7,cd8,cd9,cd10,cd11,cd12,cd13,cd14,cd15,cd16,cd17,cd18,cd19,cd20,cd21,cd22,cd23,cd24,cd25,cd26,cd27,cd28,cd29,cd30,cd31,cd32,cd33,cd34,cd35,cd36,cd37,cd38,cd39,cd40,cd41,cd42,cd43,cd44,cd45,cd46,cd47,cd48,cd49,cd50,cd51,cd52,wf43,wf45,wf49,wf50⟩ hf hd
        have hf' : b14 = false := hf
        subst hf'
        have d13 : b13 = true := hd ⟨13, .data⟩ (by simp) rfl
        subst d13
        have d11 : b11 = true := hd ⟨11, .chain⟩ (by simp) rfl
        subst d11
        obtain rfl := cd13.out rfl
        obtain rfl := cd11.out rfl
        clear hf hd
        try simp only [sI, s0, s1]
        intro K hK
        rw [if_pos (by rfl)]
        go_simp
        exact hK.out _ _ ⟨b0, b1, b2, b3, b4, b5, b6, b7, b8, b9, b10, true, b12, true, true, b15, b16, b17, b18, b19, b20, b21, b22, b23, b24, b25, b26, b27, b28, b29, b30, b31, b32, b33, b34, b35, b36, b37, b38, b39, b40, b41, b42, b43, b44, b45, b46, b47, b48, b49, b50, b51, b52, x35, x36, x37, x38, x39, x40, x41, x42, x43, x44, x45, .bool true, x47, .bool false, (.bool false), x50, x51, x52, x53, x54, x55, x56, x57, x58, x59, x60, x61, x62, x63, x64, x65, x66, x67, x68, x69, x70, x71, x72, x73, x74, x75, x76, x77, x78, x79, x80, x81, x82, x83, x84, x85, x86, x87, ge, a80, c80, gl, a85, c85, (by simp only [Act.put, sI, s0, s1]), (by simp only [Act.put, sI, s0, s1]), hb, cd0, cd1, cd2, cd3, cd4, cd5, cd6, cd7, cd8, cd9, cd10, (fun _ => rfl), cd12, (fun _ => rfl), (fun _ => rfl), cd15, cd16, cd17, cd18, cd19, cd20, cd21, cd22, cd23, cd24, cd25, cd26, cd27, cd28, cd29, cd30, cd31, cd32, cd33, cd34, cd35, cd36, cd37, cd38, cd39, cd40, cd41, cd42, cd43, cd44, cd45, cd46, cd47, cd48, cd49, cd50, cd51, cd52, wf43, wf45, wf49, wf50⟩
      · rintro L a w ⟨b0,b1,b2,b3,b4,b5,b6,b7,b8,b9,b10,b11,b12,b13,b14,b15,b16,b17,b18,b19,b20,b21,b22,b23,b24,b25,b26,b27,b28,b29,b30,b31,b32,b33,b34,b35,b36,b37,b38,b39,b40,b41,b42,b43,b44,b45,b46,b47,b48,b49,b50,b51,b52,x35,x36,x37,x38,x39,x40,x41,x42,x43,x44,x45,x46,x47,x48,x49,x50,x51,x52,x53,x54,x55,x56,x57,x58,x59,x60,x61,x62,x63,x64,x65,x66,x67,x68,x69,x70,x71,x72,x73,x74,x75,x76,x77,x78,x79,x80,x81,x82,x83,x84,x85,x86,x87,ge,a80,c80,gl,a85,c85,rfl,rfl,hb,cd0,cd1,cd2,cd3,cd4,cd5,cd6,cd7,cd8,cd9,cd10,cd11,cd12,cd13,cd14,cd15,cd16,cd17,cd18,cd19,cd20,cd21,cd22,cd23,cd24,cd25,cd26,cd27,cd28,cd29,cd30,cd31,cd32,cd33,cd34,cd35,cd36,cd37,cd38,cd39,cd40,cd41,cd42,cd43,cd44,cd45,cd46,cd47,cd48,cd49,cd50,cd51,cd52,wf43,wf45,wf49,wf50⟩ hf hd
        have hf' : b15 = false := hf
        subst hf'
        have d14 : b14 = true := hd ⟨14, .guard⟩ (by simp) rfl
        subst d14
        obtain rfl := cd14.out rfl
        clear hf hd
        try simp only [sI, s0, s1]
        intro K hK
        rw [if_pos (by rfl)]
        refine wp_load_at 27 _ rfl ⟨g, 0, none⟩ rfl r (hg.past hb).at_ _ _ u24 (hash_size _ HR) ?_
        exact hK.out _ _ ⟨b0, b1, b2, b3, b4, b5, b6, b7, b8, b9, b10, b11, b12, b13, true, true, b16, b17, b18, b19, b20, b21, b22, b23, b24, b25, b26, b27, b28, b29, b30, b31, b32, b33, b34, b35, b36, b37, b38, b39, b40, b41, b42, b43, b44, b45, b46, b47, b48, b49, b50, b51, b52, x35, x36, x37, x38, x39, x40, x41, x42, x43, x44, x45, x46, x47, x48, .bool false, (.agg (bcs r).toArray), x51, x52, x53, x54, x55, x56, x57, x58, x59, x60, x61, x62, x63, x64, x65, x66, x67, x68, x69, x70, x71, x72, x73, x74, x75, x76, x77, x78, x79, x80, x81, x82, x83, x84, x85, x86, x87, ge, a80, c80, gl, a85, c85, (by simp only [Act.put, sI, s0, s1]), (by simp only [Act.put, sI, s0, s1]), hb, cd0, cd1, cd2, cd3, cd4, cd5, cd6, cd7, cd8, cd9, cd10, cd11, cd12, cd13, (fun _ => rfl), (fun _ => rfl), cd16, cd17, cd18, cd19, cd20, cd21, cd22, cd23, cd24, cd25, cd26, cd27, cd28, cd29, cd30, cd31, cd32, cd33, cd34, cd35, cd36, cd37, cd38, cd39, cd40, cd41, cd42, cd43, cd44, cd45, cd46, cd47, cd48, cd49, cd50, cd51, cd52, wf43, wf45, wf49, wf50⟩
      · rintro L a w ⟨b0,b1,b2,b3,b4,b5,b6,b7,b8,b9,b10,b11,b12,b13,b14,b15,b16,b17,b18,b19,b20,b21,b22,b23,b24,b25,b26,b27,b28,b29,b30,b31,b32,b33,b34,b35,b36,b37,b38,b39,b40,b41,b42,b43,b44,b45,b46,b47,b48,b49,b50,b51,b52,x35,x36,x37,x38,x39,x40,x41,x42,x43,x44,x45,x46,x47,x48,x49,x50,x51,x52,x53,x54,x55,x56,x57,x58,x59,x60,x61,x62,x63,x64,x65,x66,x67,x68,x69,x70,x71,x72,x73,x74,x75,x76,x77,x78,x79,x80,x81,x82,x83,x84,x85,x86,x87,ge,a80,c80,gl,a85,c85,rfl,rfl,hb,cd0,cd1,cd2,cd3,cd4,cd5,cd6,cd7,cd8,cd9,cd10,cd11,cd12,cd13,cd14,cd15,cd16,cd17,cd18,cd19,cd20,cd21,cd22,cd23,cd24,cd25,cd26,cd27,cd28,cd29,cd30,cd31,cd32,cd33,cd34,cd35,cd36,cd37,cd38,cd39,cd40,cd41,cd42,cd43,cd44,cd45,cd46,cd47,cd48,cd49,cd50,cd51,cd52,wf43,wf45,wf49,wf50⟩ hf hd
        have hf' : b16 = false := hf
        subst hf'
        have d14 : b14 = true := hd ⟨14, .guard⟩ (by simp) rfl
        subst d14
        obtain rfl := cd14.out rfl
        clear hf hd
        try simp only [sI, s0, s1]
        intro K hK
        rw [if_pos (by rfl)]
        go_simp
        exact hK.out _ _ ⟨b0, b1, b2, b3, b4, b5, b6, b7, b8, b9, b10, b11, b12, b13, true, b15, true, b17, b18, b19, b20, b21, b22, b23, b24, b25, b26, b27, b28, b29, b30, b31, b32, b33, b34, b35, b36, b37, b38, b39, b40, b41, b42, b43, b44, b45, b46, b47, b48, b49, b50, b51, b52, x35, x36, x37, x38, x39, x40, x41, x42, x43, x44, x45, x46, x47, x48, .bool false, x50, (.slice (some al) n c), x52, x53, x54, x55, x56, x57, x58, x59, x60, x61, x62, x63, x64, x65, x66, x67, x68, x69, x70, x71, x72, x73, x74, x75, x76, x77, x78, x79, x80, x81, x82, x83, x84, x85, x86, x87, ge, a80, c80, gl, a85, c85, (by simp only [Act.put, sI, s0, s1]), (by simp only [Act.put, sI, s0, s1]), hb, cd0, cd1, cd2, cd3, cd4, cd5, cd6, cd7, cd8, cd9, cd10, cd11, cd12, cd13, (fun _ => rfl), cd15, (fun _ => rfl), cd17, cd18, cd19, cd20, cd21, cd22, cd23, cd24, cd25, cd26, cd27, cd28, cd29, cd30, cd31, cd32, cd33, cd34, cd35, cd36, cd37, cd38, cd39, cd40, cd41, cd42, cd43, cd44, cd45, cd46, cd47, cd48, cd49, cd50, cd51, cd52, wf43, wf45, wf49, wf50⟩
      · rintro L a w ⟨b0,b1,b2,b3,b4,b5,b6,b7,b8,b9,b10,b11,b12,b13,b14,b15,b16,b17,b18,b19,b20,b21,b22,b23,b24,b25,b26,b27,b28,b29,b30,b31,b32,b33,b34,b35,b36,b37,b38,b39,b40,b41,b42,b43,b44,b45,b46,b47,b48,b49,b50,b51,b52,x35,x36,x37,x38,x39,x40,x41,x42,x43,x44,x45,x46,x47,x48,x49,x50,x51,x52,x53,x54,x55,x56,x57,x58,x59,x60,x61,x62,x63,x64,x65,x66,x67,x68,x69,x70,x71,x72,x73,x74,x75,x76,x77,x78,x79,x80,x81,x82,x83,x84,x85,x86,x87,ge,a80,c80,gl,a85,c85,rfl,rfl,hb,cd0,cd1,cd2,cd3,cd4,cd5,cd6,cd7,cd8,cd9,cd10,cd11,cd12,cd13,cd14,cd15,cd16,cd17,cd18,cd19,cd20,cd21,cd22,cd23,cd24,cd25,cd26,cd27,cd28,cd29,cd30,cd31,cd32,cd33,cd34,cd35,cd36,cd37,cd38,cd39,cd40,cd41,cd42,cd43,cd44,cd45,cd46,cd47,cd48,cd49,cd50,cd51,cd52,wf43,wf45,wf49,wf50⟩ hf hd
        have hf' : b17 = false := hf
        subst hf'
        have d14 : b14 = true := hd ⟨14, .guard⟩ (by simp) rfl
        subst d14
        obtain rfl := cd14.out rfl
        clear hf hd
        try simp only [sI, s0, s1]
        intro K hK
        rw [if_pos (by rfl)]
        go_simp
        exact hK.out _ _ ⟨b0, b1, b2, b3, b4, b5, b6, b7, b8, b9, b10, b11, b12, b13, true, b15, b16, true, b18, b19, b20, b21, b22, b23, b24, b25, b26, b27, b28, b29, b30, b31, b32, b33, b34, b35, b36, b37, b38, b39, b40, b41, b42, b43, b44, b45, b46, b47, b48, b49, b50, b51, b52, x35, x36, x37, x38, x39, x40, x41, x42, x43, x44, x45, x46, x47, x48, .bool false, x50, x51, (.int .i64 (i : Nat)), x53, x54, x55, x56, x57, x58, x59, x60, x61, x62, x63, x64, x65, x66, x67, x68, x69, x70, x71, x72, x73, x74, x75, x76, x77, x78, x79, x80, x81, x82, x83, x84, x85, x86, x87, ge, a80, c80, gl, a85, c85, (by simp only [Act.put, sI, s0, s1]), (by simp only [Act.put, sI, s0, s1]), hb, cd0, cd1, cd2, cd3, cd4, cd5, cd6, cd7, cd8, cd9, cd10, cd11, cd12, cd13, (fun _ => rfl), cd15, cd16, (fun _ => rfl), cd18, cd19, cd20, cd21, cd22, cd23, cd24, cd25, cd26, cd27, cd28, cd29, cd30, cd31, cd32, cd33, cd34, cd35, cd36, cd37, cd38, cd39, cd40, cd41, cd42, cd43, cd44, cd45, cd46, cd47, cd48, cd49, cd50, cd51, cd52, wf43, wf45, wf49, wf50⟩
      · rintro L a w ⟨b0,b1,b2,b3,b4,b5,b6,b7,b8,b9,b10,b11,b12,b13,b14,b15,b16,b17,b18,b19,b20,b21,b22,b23,b24,b25,b26,b27,b28,b29,b30,b31,b32,b33,b34,b35,b36,b37,b38,b39,b40,b41,b42,b43,b44,b45,b46,b47,b48,b49,b50,b51,b52,x35,x36,x37,x38,x39,x40,x41,x42,x43,x44,x45,x46,x47,x48,x49,x50,x51,x52,x53,x54,x55,x56,x57,x58,x59,x60,x61,x62,x63,x64,x65,x66,x67,x68,x69,x70,x71,x72,x73,x74,x75,x76,x77,x78,x79,x80,x81,x82,x83,x84,x85,x86,x87,ge,a80,c80,gl,a85,c85,rfl,rfl,hb,cd0,cd1,cd2,cd3,cd4,cd5,cd6,cd7,cd8,cd9,cd10,cd11,cd12,cd13,cd14,cd15,cd16,cd17,cd18,cd19,cd20,cd21,cd22,cd23,cd24,cd25,cd26,cd27,cd28,cd29,cd30,cd31,cd32,cd33,cd34,cd35,cd36,cd37,cd38,cd39,cd40,cd41,cd42,cd43,cd44,cd45,cd46,cd47,cd48,cd49,cd50,cd51,cd52,wf43,wf45,wf49,wf50⟩ hf hd
        have hf' : b18 = false := hf
        subst hf'
        have d16 : b16 = true := hd ⟨16, .data⟩ (by simp) rfl
        subst d16
        have d17 : b17 = true := hd ⟨17, .data⟩ (by simp) rfl
        subst d17
        have d14 : b14 = true := hd ⟨14, .guard⟩ (by simp) rfl
        subst d14
        obtain rfl := cd16.out rfl
        obtain rfl := cd17.out rfl
        obtain rfl := cd14.out rfl
        clear hf hd
        try simp only [sI, s0, s1]
        intro K hK
        rw [if_pos (by rfl)]
        go_simp
        exact hK.out _ _ ⟨b0, b1, b2, b3, b4, b5, b6, b7, b8, b9, b10, b11, b12, b13, true, b15, true, true, true, b19, b20, b21, b22, b23, b24, b25, b26, b27, b28, b29, b30, b31, b32, b33, b34, b35, b36, b37, b38, b39, b40, b41, b42, b43, b44, b45, b46, b47, b48, b49, b50, b51, b52, x35, x36, x37, x38, x39, x40, x41, x42, x43, x44, x45, x46, x47, x48, .bool false, x50, .slice (some al) n c, .int .i64 (i : Nat), (.pointer (some (al.add (i * 32)))), x54, x55, x56, x57, x58, x59, x60, x61, x62, x63, x64, x65, x66, x67, x68, x69, x70, x71, x72, x73, x74, x75, x76, x77, x78, x79, x80, x81, x82, x83, x84, x85, x86, x87, ge, a80, c80, gl, a85, c85, (by simp only [Act.put, sI, s0, s1]), (by simp only [Act.put, sI, s0, s1]), hb, cd0, cd1, cd2, cd3, cd4, cd5, cd6, cd7, cd8, cd9, cd10, cd11, cd12, cd13, (fun _ => rfl), cd15, (fun _ => rfl), (fun _ => rfl), (fun _ => rfl), cd19, cd20, cd21, cd22, cd23, cd24, cd25, cd26, cd27, cd28, cd29, cd30, cd31, cd32, cd33, cd34, cd35, cd36, cd37, cd38, cd39, cd40, cd41, cd42, cd43, cd44, cd45, cd46, cd47, cd48, cd49, cd50, cd51, cd52, wf43, wf45, wf49, wf50⟩
      · rintro L a w ⟨b0,b1,b2,b3,b4,b5,b6,b7,b8,b9,b10,b11,b12,b13,b14,b15,b16,b17,b18,b19,b20,b21,b22,b23,b24,b25,b26,b27,b28,b29,b30,b31,b32,b33,b34,b35,b36,b37,b38,b39,b40,b41,b42,b43,b44,b45,b46,b47,b48,b49,b50,b51,b52,x35,x36,x37,x38,x39,x40,x41,x42,x43,x44,x45,x46,x47,x48,x49,x50,x51,x52,x53,x54,x55,x56,x57,x58,x59,x60,x61,x62,x63,x64,x65,x66,x67,x68,x69,x70,x71,x72,x73,x74,x75,x76,x77,x78,x79,x80,x81,x82,x83,x84,x85,x86,x87,ge,a80,c80,gl,a85,c85,rfl,rfl,hb,cd0,cd1,cd2,cd3,cd4,cd5,cd6,cd7,cd8,cd9,cd10,cd11,cd12,cd13,cd14,cd15,cd16,cd17,cd18,cd19,cd20,cd21,cd22,cd23,cd24,cd25,cd26,cd27,cd28,cd29,cd30,cd31,cd32,cd33,cd34,cd35,cd36,cd37,cd38,cd39,cd40,cd41,cd42,cd43,cd44,cd45,cd46,cd47,cd48,cd49,cd50,cd51,cd52,wf43,wf45,wf49,wf50⟩ hf hd
        have hf' : b19 = false := hf
        subst hf'
        have d18 : b18 = true := hd ⟨18, .data⟩ (by simp) rfl
        subst d18
        have d14 : b14 = true := hd ⟨14, .guard⟩ (by simp) rfl
        subst d14
        obtain rfl := cd18.out rfl
        obtain rfl := cd14.out rfl
        clear hf hd
        try simp only [sI, s0, s1]
        intro K hK
        rw [if_pos (by rfl)]
        refine wp_load_at 27 _ rfl (al.add (i * 32)) rfl li (tI.past hb) _ _ u24 (hash_size _ hI32) ?_
        exact hK.out _ _ ⟨b0, b1, b2, b3, b4, b5, b6, b7, b8, b9, b10, b11, b12, b13, true, b15, b16, b17, true, true, b20, b21, b22, b23, b24, b25, b26, b27, b28, b29, b30, b31, b32, b33, b34, b35, b36, b37, b38, b39, b40, b41, b42, b43, b44, b45, b46, b47, b48, b49, b50, b51, b52, x35, x36, x37, x38, x39, x40, x41, x42, x43, x44, x45, x46, x47, x48, .bool false, x50, x51, x52, .pointer (some (al.add (i * 32))), (.agg (bcs li).toArray), x55, x56, x57, x58, x59, x60, x61, x62, x63, x64, x65, x66, x67, x68, x69, x70, x71, x72, x73, x74, x75, x76, x77, x78, x79, x80, x81, x82, x83, x84, x85, x86, x87, ge, a80, c80, gl, a85, c85, (by simp only [Act.put, sI, s0, s1]), (by simp only [Act.put, sI, s0, s1]), hb, cd0, cd1, cd2, cd3, cd4, cd5, cd6, cd7, cd8, cd9, cd10, cd11, cd12, cd13, (fun _ => rfl), cd15, cd16, cd17, (fun _ => rfl), (fun _ => rfl), cd20, cd21, cd22, cd23, cd24, cd25, cd26, cd27, cd28, cd29, cd30, cd31, cd32, cd33, cd34, cd35, cd36, cd37, cd38, cd39, cd40, cd41, cd42, cd43, cd44, cd45, cd46, cd47, cd48, cd49, cd50, cd51, cd52, wf43, wf45, wf49, wf50⟩
      · rintro L a w ⟨b0,b1,b2,b3,b4,b5,b6,b7,b8,b9,b10,b11,b12,b13,b14,b15,b16,b17,b18,b19,b20,b21,b22,b23,b24,b25,b26,b27,b28,b29,b30,b31,b32,b33,b34,b35,b36,b37,b38,b39,b40,b41,b42,b43,b44,b45,b46,b47,b48,b49,b50,b51,b52,x35,x36,x37,x38,x39,x40,x41,x42,x43,x44,x45,x46,x47,x48,x49,x50,x51,x52,x53,x54,x55,x56,x57,x58,x59,x60,x61,x62,x63,x64,x65,x66,x67,x68,x69,x70,x71,x72,x73,x74,x75,x76,x77,x78,x79,x80,x81,x82,x83,x84,x85,x86,x87,ge,a80,c80,gl,a85,c85,rfl,rfl,hb,cd0,cd1,cd2,cd3,cd4,cd5,cd6,cd7,cd8,cd9,cd10,cd11,cd12,cd13,cd14,cd15,cd16,cd17,cd18,cd19,cd20,cd21,cd22,cd23,cd24,cd25,cd26,cd27,cd28,cd29,cd30,cd31,cd32,cd33,cd34,cd35,cd36,cd37,cd38,cd39,cd40,cd41,cd42,cd43,cd44,cd45,cd46,cd47,cd48,cd49,cd50,cd51,cd52,wf43,wf45,wf49,wf50⟩ hf hd
        have hf' : b20 = false := hf
        subst hf'
        have d14 : b14 = true := hd ⟨14, .guard⟩ (by simp) rfl
        subst d14
        obtain rfl := cd14.out rfl
        clear hf hd
        try simp only [sI, s0, s1]
        intro K hK
        rw [if_pos (by rfl)]
        go_simp
        exact hK.out _ _ ⟨b0, b1, b2, b3, b4, b5, b6, b7, b8, b9, b10, b11, b12, b13, true, b15, b16, b17, b18, b19, true, b21, b22, b23, b24, b25, b26, b27, b28, b29, b30, b31, b32, b33, b34, b35, b36, b37, b38, b39, b40, b41, b42, b43, b44, b45, b46, b47, b48, b49, b50, b51, b52, x35, x36, x37, x38, x39, x40, x41, x42, x43, x44, x45, x46, x47, x48, .bool false, x50, x51, x52, x53, x54, (.int .i64 (n : Nat)), x56, x57, x58, x59, x60, x61, x62, x63, x64, x65, x66, x67, x68, x69, x70, x71, x72, x73, x74, x75, x76, x77, x78, x79, x80, x81, x82, x83, x84, x85, x86, x87, ge, a80, c80, gl, a85, c85, (by simp only [Act.put, sI, s0, s1]), (by simp only [Act.put, sI, s0, s1]), hb, cd0, cd1, cd2, cd3, cd4, cd5, cd6, cd7, cd8, cd9, cd10, cd11, cd12, cd13, (fun _ => rfl), cd15, cd16, cd17, cd18, cd19, (fun _ => rfl), cd21, cd22, cd23, cd24, cd25, cd26, cd27, cd28, cd29, cd30, cd31, cd32, cd33, cd34, cd35, cd36, cd37, cd38, cd39, cd40, cd41, cd42, cd43, cd44, cd45, cd46, cd47, cd48, cd49, cd50, cd51, cd52, wf43, wf45, wf49, wf50⟩
      · rintro L a w ⟨b0,b1,b2,b3,b4,b5,b6,b7,b8,b9,b10,b11,b12,b13,b14,b15,b16,b17,b18,b19,b20,b21,b22,b23,b24,b25,b26,b27,b28,b29,b30,b31,b32,b33,b34,b35,b36,b37,b38,b39,b40,b41,b42,b43,b44,b45,b46,b47,b48,b49,b50,b51,b52,x35,x36,x37,x38,x39,x40,x41,x42,x43,x44,x45,x46,x47,x48,x49,x50,x51,x52,x53,x54,x55,x56,x57,x58,x59,x60,x61,x62,x63,x64,x65,x66,x67,x68,x69,x70,x71,x72,x73,x74,x75,x76,x77,x78,x79,x80,x81,x82,x83,x84,x85,x86,x87,ge,a80,c80,gl,a85,c85,rfl,rfl,hb,cd0,cd1,cd2,cd3,cd4,cd5,cd6,cd7,cd8,cd9,cd10,cd11,cd12,cd13,cd14,cd15,cd16,cd17,cd18,cd19,cd20,cd21,cd22,cd23,cd24,cd25,cd26,cd27,cd28,cd29,cd30,cd31,cd32,cd33,cd34,cd35,cd36,cd37,cd38,cd39,cd40,cd41,cd42,cd43,cd44,cd45,cd46,cd47,cd48,cd49,cd50,cd51,cd52,wf43,wf45,wf49,wf50⟩ hf hd
        have hf' : b21 = false := hf
        subst hf'
        have d14 : b14 = true := hd ⟨14, .guard⟩ (by simp) rfl
        subst d14
        obtain rfl := cd14.out rfl
        clear hf hd
        try simp only [sI, s0, s1]
        intro K hK
        rw [if_pos (by rfl)]
        go_simp
        exact hK.out _ _ ⟨b0, b1, b2, b3, b4, b5, b6, b7, b8, b9, b10, b11, b12, b13, true, b15, b16, b17, b18, b19, b20, true, b22, b23, b24, b25, b26, b27, b28, b29, b30, b31, b32, b33, b34, b35, b36, b37, b38, b39, b40, b41, b42, b43, b44, b45, b46, b47, b48, b49, b50, b51, b52, x35, x36, x37, x38, x39, x40, x41, x42, x43, x44, x45, x46, x47, x48, .bool false, x50, x51, x52, x53, x54, x55, (.int .i64 (n : Nat)), x57, x58, x59, x60, x61, x62, x63, x64, x65, x66, x67, x68, x69, x70, x71, x72, x73, x74, x75, x76, x77, x78, x79, x80, x81, x82, x83, x84, x85, x86, x87, ge, a80, c80, gl, a85, c85, (by simp only [Act.put, sI, s0, s1]), (by simp only [Act.put, sI, s0, s1]), hb, cd0, cd1, cd2, cd3, cd4, cd5, cd6, cd7, cd8, cd9, cd10, cd11, cd12, cd13, (fun _ => rfl), cd15, cd16, cd17, cd18, cd19, cd20, (fun _ => rfl), cd22, cd23, cd24, cd25, cd26, cd27, cd28, cd29, cd30, cd31, cd32, cd33, cd34, cd35, cd36, cd37, cd38, cd39, cd40, cd41, cd42, cd43, cd44, cd45, cd46, cd47, cd48, cd49, cd50, cd51, cd52, wf43, wf45, wf49, wf50⟩
      · rintro L a w ⟨b0,b1,b2,b3,b4,b5,b6,b7,b8,b9,b10,b11,b12,b13,b14,b15,b16,b17,b18,b19,b20,b21,b22,b23,b24,b25,b26,b27,b28,b29,b30,b31,b32,b33,b34,b35,b36,b37,b38,b39,b40,b41,b42,b43,b44,b45,b46,b47,b48,b49,b50,b51,b52,x35,x36,x37,x38,x39,x40,x41,x42,x43,x44,x45,x46,x47,x48,x49,x50,x51,x52,x53,x54,x55,x56,x57,x58,x59,x60,x61,x62,x63,x64,x65,x66,x67,x68,x69,x70,x71,x72,x73,x74,x75,x76,x77,x78,x79,x80,x81,x82,x83,x84,x85,x86,x87,ge,a80,c80,gl,a85,c85,rfl,rfl,hb,cd0,cd1,cd2,cd3,cd4,cd5,cd6,cd7,cd8,cd9,cd10,cd11,cd12,cd13,cd14,cd15,cd16,cd17,cd18,cd19,cd20,cd21,cd22,cd23,cd24,cd25,cd26,cd27,cd28,cd29,cd30,cd31,cd32,cd33,cd34,cd35,cd36,cd37,cd38,cd39,cd40,cd41,cd42,cd43,cd44,cd45,cd46,cd47,cd48,cd49,cd50,cd51,cd52,wf43,wf45,wf49,wf50⟩ hf hd
        have hf' : b22 = false := hf
        subst hf'
        have d14 : b14 = true := hd ⟨14, .guard⟩ (by simp) rfl
        subst d14
        obtain rfl := cd14.out rfl
        clear hf hd
        try simp only [sI, s0, s1]
        intro K hK
        rw [if_pos (by rfl)]
        go_simp
        exact hK.out _ _ ⟨b0, b1, b2, b3, b4, b5, b6, b7, b8, b9, b10, b11, b12, b13, true, b15, b16, b17, b18, b19, b20, b21, true, b23, b24, b25, b26, b27, b28, b29, b30, b31, b32, b33, b34, b35, b36, b37, b38, b39, b40, b41, b42, b43, b44, b45, b46, b47, b48, b49, b50, b51, b52, x35, x36, x37, x38, x39, x40, x41, x42, x43, x44, x45, x46, x47, x48, .bool false, x50, x51, x52, x53, x54, x55, x56, (.slice ap m cp), x58, x59, x60, x61, x62, x63, x64, x65, x66, x67, x68, x69, x70, x71, x72, x73, x74, x75, x76, x77, x78, x79, x80, x81, x82, x83, x84, x85, x86, x87, ge, a80, c80, gl, a85, c85, (by simp only [Act.put, sI, s0, s1]), (by simp only [Act.put, sI, s0, s1]), hb, cd0, cd1, cd2, cd3, cd4, cd5, cd6, cd7, cd8, cd9, cd10, cd11, cd12, cd13, (fun _ => rfl), cd15, cd16, cd17, cd18, cd19, cd20, cd21, (fun _ => rfl), cd23, cd24, cd25, cd26, cd27, cd28, cd29, cd30, cd31, cd32, cd33, cd34, cd35, cd36, cd37, cd38, cd39, cd40, cd41, cd42, cd43, cd44, cd45, cd46, cd47, cd48, cd49, cd50, cd51, cd52, wf43, wf45, wf49, wf50⟩
      · rintro L a w ⟨b0,b1,b2,b3,b4,b5,b6,b7,b8,b9,b10,b11,b12,b13,b14,b15,b16,b17,b18,b19,b20,b21,b22,b23,b24,b25,b26,b27,b28,b29,b30,b31,b32,b33,b34,b35,b36,b37,b38,b39,b40,b41,b42,b43,b44,b45,b46,b47,b48,b49,b50,b51,b52,x35,x36,x37,x38,x39,x40,x41,x42,x43,x44,x45,x46,x47,x48,x49,x50,x51,x52,x53,x54,x55,x56,x57,x58,x59,x60,x61,x62,x63,x64,x65,x66,x67,x68,x69,x70,x71,x72,x73,x74,x75,x76,x77,x78,x79,x80,x81,x82,x83,x84,x85,x86,x87,ge,a80,c80,gl,a85,c85,rfl,rfl,hb,cd0,cd1,cd2,cd3,cd4,cd5,cd6,cd7,cd8,cd9,cd10,cd11,cd12,cd13,cd14,cd15,cd16,cd17,cd18,cd19,cd20,cd21,cd22,cd23,cd24,cd25,cd26,cd27,cd28,cd29,cd30,cd31,cd32,cd33,cd34,cd35,cd36,cd37,cd38,cd39,cd40,cd41,cd42,cd43,cd44,cd45,cd46,cd47,cd48,cd49,cd50,cd51,cd52,wf43,wf45,wf49,wf50⟩ hf hd
        have hf' : b23 = false := hf
        subst hf'
        have d15 : b15 = true := hd ⟨15, .data⟩ (by simp) rfl
        subst d15
        have d19 : b19 = true := hd ⟨19, .data⟩ (by simp) rfl
        subst d19
        have d20 : b20 = true := hd ⟨20, .data⟩ (by simp) rfl
        subst d20
        have d21 : b21 = true := hd ⟨21, .data⟩ (by simp) rfl
        subst d21
        have d22 : b22 = true := hd ⟨22, .data⟩ (by simp) rfl
        subst d22
        have d14 : b14 = true := hd ⟨14, .chain⟩ (by simp) rfl
        subst d14
        obtain rfl := cd15.out rfl
        obtain rfl := cd19.out rfl
        obtain rfl := cd20.out rfl
        obtain rfl := cd21.out rfl
        obtain rfl := cd22.out rfl
        obtain rfl := cd14.out rfl
        clear hf hd
        try simp only [sI, s0, s1]
        intro K hK
        rw [if_pos (by rfl)]
        go_simp
        go_at_call 9
        refine (M2 _ (hC.past hb) (hP.past hb)).mono ?_
        rintro e w2 ⟨rfl, bx⟩
        exact hK.out _ _ ⟨b0, b1, b2, b3, b4, b5, b6, b7, b8, b9, b10, b11, b12, b13, true, true, b16, b17, b18, true, true, true, true, true, b24, b25, b26, b27, b28, b29, b30, b31, b32, b33, b34, b35, b36, b37, b38, b39, b40, b41, b42, b43, b44, b45, b46, b47, b48, b49, b50, b51, b52, x35, x36, x37, x38, x39, x40, x41, x42, x43, x44, x45, x46, x47, x48, .bool false, .agg (bcs r).toArray, x51, x52, x53, .agg (bcs li).toArray, .int .i64 (n : Nat), .int .i64 (n : Nat), .slice ap m cp, (.bool false), x59, x60, x61, x62, x63, x64, x65, x66, x67, x68, x69, x70, x71, x72, x73, x74, x75, x76, x77, x78, x79, x80, x81, x82, x83, x84, x85, x86, x87, ge, a80, c80, gl, a85, c85, (by simp only [Act.put, sI, s0, s1]), (by simp only [Act.put, sI, s0, s1]), hb.trans (bx.mono hb.size), cd0, cd1, cd2, cd3, cd4, cd5, cd6, cd7, cd8, cd9, cd10, cd11, cd12, cd13, (fun _ => rfl), (fun _ => rfl), cd16, cd17, cd18, (fun _ => rfl), (fun _ => rfl), (fun _ => rfl), (fun _ => rfl), (fun _ => rfl), cd24, cd25, cd26, cd27, cd28, cd29, cd30, cd31, cd32, cd33, cd34, cd35, cd36, cd37, cd38, cd39, cd40, cd41, cd42, cd43, cd44, cd45, cd46, cd47, cd48, cd49, cd50, cd51, cd52, (fun h h2 => (wf43.out h h2).past bx), (fun h h2 => (wf45.out h h2).past bx), (fun h h2 => (wf49.out h h2).past bx), (fun h => (wf50.out h).past bx)⟩
      · rintro L a w ⟨b0,b1,b2,b3,b4,b5,b6,b7,b8,b9,b10,b11,b12,b13,b14,b15,b16,b17,b18,b19,b20,b21,b22,b23,b24,b25,b26,b27,b28,b29,b30,b31,b32,b33,b34,b35,b36,b37,b38,b39,b40,b41,b42,b43,b44,b45,b46,b47,b48,b49,b50,b51,b52,x35,x36,x37,x38,x39,x40,x41,x42,x43,x44,x45,x46,x47,x48,x49,x50,x51,x52,x53,x54,x55,x56,x57,x58,x59,x60,x61,x62,x63,x64,x65,x66,x67,x68,x69,x70,x71,x72,x73,x74,x75,x76,x77,x78,x79,x80,x81,x82,x83,x84,x85,x86,x87,ge,a80,c80,gl,a85,c85,rfl,rfl,hb,cd0,cd1,cd2,cd3,cd4,cd5,cd6,cd7,cd8,cd9,cd10,cd11,cd12,cd13,cd14,cd15,cd16,cd17,cd18,cd19,cd20,cd21,cd22,cd23,cd24,cd25,cd26,cd27,cd28,cd29,cd30,cd31,cd32,cd33,cd34,cd35,cd36,cd37,cd38,cd39,cd40,cd41,cd42,cd43,cd44,cd45,cd46,cd47,cd48,cd49,cd50,cd51,cd52,wf43,wf45,wf49,wf50⟩ hf hd
        have hf' : b24 = false := hf
        subst hf'
        have d14 : b14 = true := hd ⟨14, .data⟩ (by simp) rfl
        subst d14
        have d23 : b23 = true := hd ⟨23, .data⟩ (by simp) rfl
        subst d23
        obtain rfl := cd14.out rfl
        obtain rfl := cd23.out rfl
        clear hf hd
        try simp only [sI, s0, s1]
        intro K hK
        rw [if_pos (by rfl)]
        go_simp
        exact hK.out _ _ ⟨b0, b1, b2, b3, b4, b5, b6, b7, b8, b9, b10, b11, b12, b13, true, b15, b16, b17, b18, b19, b20, b21, b22, true, true, b25, b26, b27, b28, b29, b30, b31, b32, b33, b34, b35, b36, b37, b38, b39, b40, b41, b42, b43, b44, b45, b46, b47, b48, b49, b50, b51, b52, x35, x36, x37, x38, x39, x40, x41, x42, x43, x44, x45, x46, x47, x48, .bool false, x50, x51, x52, x53, x54, x55, x56, x57, .bool false, (.bool false), x60, x61, x62, x63, x64, x65, x66, x67, x68, x69, x70, x71, x72, x73, x74, x75, x76, x77, x78, x79, x80, x81, x82, x83, x84, x85, x86, x87, ge, a80, c80, gl, a85, c85, (by simp only [Act.put, sI, s0, s1]), (by simp only [Act.put, sI, s0, s1]), hb, cd0, cd1, cd2, cd3, cd4, cd5, cd6, cd7, cd8, cd9, cd10, cd11, cd12, cd13, (fun _ => rfl), cd15, cd16, cd17, cd18, cd19, cd20, cd21, cd22, (fun _ => rfl), (fun _ => rfl), cd25, cd26, cd27, cd28, cd29, cd30, cd31, cd32, cd33, cd34, cd35, cd36, cd37, cd38, cd39, cd40, cd41, cd42, cd43, cd44, cd45, cd46, cd47, cd48, cd49, cd50, cd51, cd52, wf43, wf45, wf49, wf50⟩
      · rintro L a w ⟨b0,b1,b2,b3,b4,b5,b6,b7,b8,b9,b10,b11,b12,b13,b14,b15,b16,b17,b18,b19,b20,b21,b22,b23,b24,b25,b26,b27,b28,b29,b30,b31,b32,b33,b34,b35,b36,b37,b38,b39,b40,b41,b42,b43,b44,b45,b46,b47,b48,b49,b50,b51,b52,x35,x36,x37,x38,x39,x40,x41,x42,x43,x44,x45,x46,x47,x48,x49,x50,x51,x52,x53,x54,x55,x56,x57,x58,x59,x60,x61,x62,x63,x64,x65,x66,x67,x68,x69,x70,x71,x72,x73,x74,x75,x76,x77,x78,x79,x80,x81,x82,x83,x84,x85,x86,x87,ge,a80,c80,gl,a85,c85,rfl,rfl,hb,cd0,cd1,cd2,cd3,cd4,cd5,cd6,cd7,cd8,cd9,cd10,cd11,cd12,cd13,cd14,cd15,cd16,cd17,cd18,cd19,cd20,cd21,cd22,cd23,cd24,cd25,cd26,cd27,cd28,cd29,cd30,cd31,cd32,cd33,cd34,cd35,cd36,cd37,cd38,cd39,cd40,cd41,cd42,cd43,cd44,cd45,cd46,cd47,cd48,cd49,cd50,cd51,cd52,wf43,wf45,wf49,wf50⟩ hf hd
        have hf' : b25 = false := hf
        subst hf'
        have d24 : b24 = true := hd ⟨24, .data⟩ (by simp) rfl
        subst d24
        have d23 : b23 = true := hd ⟨23, .chain⟩ (by simp) rfl
        subst d23
        obtain rfl := cd24.out rfl
        obtain rfl := cd23.out rfl
        clear hf hd
        try simp only [sI, s0, s1]
        intro K hK
        rw [if_pos (by rfl)]
        go_simp
        exact hK.out _ _ ⟨b0, b1, b2, b3, b4, b5, b6, b7, b8, b9, b10, b11, b12, b13, b14, b15, b16, b17, b18, b19, b20, b21, b22, true, true, true, b26, b27, b28, b29, b30, b31, b32, b33, b34, b35, b36, b37, b38, b39, b40, b41, b42, b43, b44, b45, b46, b47, b48, b49, b50, b51, b52, x35, x36, x37, x38, x39, x40, x41, x42, x43, x44, x45, x46, x47, x48, x49, x50, x51, x52, x53, x54, x55, x56, x57, .bool false, .bool false, (.bool false), x61, x62, x63, x64, x65, x66, x67, x68, x69, x70, x71, x72, x73, x74, x75, x76, x77, x78, x79, x80, x81, x82, x83, x84, x85, x86, x87, ge, a80, c80, gl, a85, c85, (by simp only [Act.put, sI, s0, s1]), (by simp only [Act.put, sI, s0, s1]), hb, cd0, cd1, cd2, cd3, cd4, cd5, cd6, cd7, cd8, cd9, cd10, cd11, cd12, cd13, cd14, cd15, cd16, cd17, cd18, cd19, cd20, cd21, cd22, (fun _ => rfl), (fun _ => rfl), (fun _ => rfl), cd26, cd27, cd28, cd29, cd30, cd31, cd32, cd33, cd34, cd35, cd36, cd37, cd38, cd39, cd40, cd41, cd42, cd43, cd44, cd45, cd46, cd47, cd48, cd49, cd50, cd51, cd52, wf43, wf45, wf49, wf50⟩
      · rintro L a w ⟨b0,b1,b2,b3,b4,b5,b6,b7,b8,b9,b10,b11,b12,b13,b14,b15,b16,b17,b18,b19,b20,b21,b22,b23,b24,b25,b26,b27,b28,b29,b30,b31,b32,b33,b34,b35,b36,b37,b38,b39,b40,b41,b42,b43,b44,b45,b46,b47,b48,b49,b50,b51,b52,x35,x36,x37,x38,x39,x40,x41,x42,x43,x44,x45,x46,x47,x48,x49,x50,x51,x52,x53,x54,x55,x56,x57,x58,x59,x60,x61,x62,x63,x64,x65,x66,x67,x68,x69,x70,x71,x72,x73,x74,x75,x76,x77,x78,x79,x80,x81,x82,x83,x84,x85,x86,x87,ge,a80,c80,gl,a85,c85,rfl,rfl,hb,cd0,cd1,cd2,cd3,cd4,cd5,cd6,cd7,cd8,cd9,cd10,cd11,cd12,cd13,cd14,cd15,cd16,cd17,cd18,cd19,cd20,cd21,cd22,cd23,cd24,cd25,cd26,cd27,cd28,cd29,cd30,cd31,cd32,cd33,cd34,cd35,cd36,cd37,cd38,cd39,cd40,cd41,cd42,cd43,cd44,cd45,cd46,cd47,cd48,cd49,cd50,cd51,cd52,wf43,wf45,wf49,wf50⟩ hf hd
        have hf' : b26 = false := hf
        subst hf'
        have d25 : b25 = true := hd ⟨25, .guard⟩ (by simp) rfl
        subst d25
        obtain rfl := cd25.out rfl
        clear hf hd
        try simp only [sI, s0, s1]
        intro K hK
        rw [if_pos (by rfl)]
        refine wp_load_at 27 _ rfl ⟨g, 0, none⟩ rfl r (hg.past hb).at_ _ _ u24 (hash_size _ HR) ?_
        exact hK.out _ _ ⟨b0, b1, b2, b3, b4, b5, b6, b7, b8, b9, b10, b11, b12, b13, b14, b15, b16, b17, b18, b19, b20, b21, b22, b23, b24, true, true, b27, b28, b29, b30, b31, b32, b33, b34, b35, b36, b37, b38, b39, b40, b41, b42, b43, b44, b45, b46, b47, b48, b49, b50, b51, b52, x35, x36, x37, x38, x39, x40, x41, x42, x43, x44, x45, x46, x47, x48, x49, x50, x51, x52, x53, x54, x55, x56, x57, x58, x59, .bool false, (.agg (bcs r).toArray), x62, x63, x64, x65, x66, x67, x68, x69, x70, x71, x72, x73, x74, x75, x76, x77, x78, x79, x80, x81, x82, x83, x84, x85, x86, x87, ge, a80, c80, gl, a85, c85, (by simp only [Act.put, sI, s0, s1]), (by simp only [Act.put, sI, s0, s1]), hb, cd0, cd1, cd2, cd3, cd4, cd5, cd6, cd7, cd8, cd9, cd10, cd11, cd12, cd13, cd14, cd15, cd16, cd17, cd18, cd19, cd20, cd21, cd22, cd23, cd24, (fun _ => rfl), (fun _ => rfl), cd27, cd28, cd29, cd30, cd31, cd32, cd33, cd34, cd35, cd36, cd37, cd38, cd39, cd40, cd41, cd42, cd43, cd44, cd45, cd46, cd47, cd48, cd49, cd50, cd51, cd52, wf43, wf45, wf49, wf50⟩
      · rintro L a w ⟨b0,b1,b2,b3,b4,b5,b6,b7,b8,b9,b10,b11,b12,b13,b14,b15,b16,b17,b18,b19,b20,b21,b22,b23,b24,b25,b26,b27,b28,b29,b30,b31,b32,b33,b34,b35,b36,b37,b38,b39,b40,b41,b42,b43,b44,b45,b46,b47,b48,b49,b50,b51,b52,x35,x36,x37,x38,x39,x40,x41,x42,x43,x44,x45,x46,x47,x48,x49,x50,x51,x52,x53,x54,x55,x56,x57,x58,x59,x60,x61,x62,x63,x64,x65,x66,x67,x68,x69,x70,x71,x72,x73,x74,x75,x76,x77,x78,x79,x80,x81,x82,x83,x84,x85,x86,x87,ge,a80,c80,gl,a85,c85,rfl,rfl,hb,cd0,cd1,cd2,cd3,cd4,cd5,cd6,cd7,cd8,cd9,cd10,cd11,cd12,cd13,cd14,cd15,cd16,cd17,cd18,cd19,cd20,cd21,cd22,cd23,cd24,cd25,cd26,cd27,cd28,cd29,cd30,cd31,cd32,cd33,cd34,cd35,cd36,cd37,cd38,cd39,cd40,cd41,cd42,cd43,cd44,cd45,cd46,cd47,cd48,cd49,cd50,cd51,cd52,wf43,wf45,wf49,wf50⟩ hf hd
        have hf' : b27 = false := hf
        subst hf'
        have d25 : b25 = true := hd ⟨25, .guard⟩ (by simp) rfl
        subst d25
        obtain rfl := cd25.out rfl
        clear hf hd
        try simp only [sI, s0, s1]
        intro K hK
        rw [if_pos (by rfl)]
        go_simp
        exact hK.out _ _ ⟨b0, b1, b2, b3, b4, b5, b6, b7, b8, b9, b10, b11, b12, b13, b14, b15, b16, b17, b18, b19, b20, b21, b22, b23, b24, true, b26, true, b28, b29, b30, b31, b32, b33, b34, b35, b36, b37, b38, b39, b40, b41, b42, b43, b44, b45, b46, b47, b48, b49, b50, b51, b52, x35, x36, x37, x38, x39, x40, x41, x42, x43, x44, x45, x46, x47, x48, x49, x50, x51, x52, x53, x54, x55, x56, x57, x58, x59, .bool false, x61, (.slice (some al) n c), x63, x64, x65, x66, x67, x68, x69, x70, x71, x72, x73, x74, x75, x76, x77, x78, x79, x80, x81, x82, x83, x84, x85, x86, x87, ge, a80, c80, gl, a85, c85, (by simp only [Act.put, sI, s0, s1]), (by simp only [Act.put, sI, s0, s1]), hb, cd0, cd1, cd2, cd3, cd4, cd5, cd6, cd7, cd8, cd9, cd10, cd11, cd12, cd13, cd14, cd15, cd16, cd17, cd18, cd19, cd20, cd21, cd22, cd23, cd24, (fun _ => rfl), cd26, (fun _ => rfl), cd28, cd29, cd30, cd31, cd32, cd33, cd34, cd35, cd36, cd37, cd38, cd39, cd40, cd41, cd42, cd43, cd44, cd45, cd46, cd47, cd48, cd49, cd50, cd51, cd52, wf43, wf45, wf49, wf50⟩
      · rintro L a w ⟨b0,b1,b2,b3,b4,b5,b6,b7,b8,b9,b10,b11,b12,b13,b14,b15,b16,b17,b18,b19,b20,b21,b22,b23,b24,b25,b26,b27,b28,b29,b30,b31,b32,b33,b34,b35,b36,b37,b38,b39,b40,b41,b42,b43,b44,b45,b46,b47,b48,b49,b50,b51,b52,x35,x36,x37,x38,x39,x40,x41,x42,x43,x44,x45,x46,x47,x48,x49,x50,x51,x52,x53,x54,x55,x56,x57,x58,x59,x60,x61,x62,x63,x64,x65,x66,x67,x68,x69,x70,x71,x72,x73,x74,x75,x76,x77,x78,x79,x80,x81,x82,x83,x84,x85,x86,x87,ge,a80,c80,gl,a85,c85,rfl,rfl,hb,cd0,cd1,cd2,cd3,cd4,cd5,cd6,cd7,cd8,cd9,cd10,cd11,cd12,cd13,cd14,cd15,cd16,cd17,cd18,cd19,cd20,cd21,cd22,cd23,cd24,cd25,cd26,cd27,cd28,cd29,cd30,cd31,cd32,cd33,cd34,cd35,cd36,cd37,cd38,cd39,cd40,cd41,cd42,cd43,cd44,cd45,cd46,cd47,cd48,cd49,cd50,cd51,cd52,wf43,wf45,wf49,wf50⟩ hf hd
        have hf' : b28 = false := hf
        subst hf'
        have d25 : b25 = true := hd ⟨25, .guard⟩ (by simp) rfl
        subst d25
        obtain rfl := cd25.out rfl
        clear hf hd
        try simp only [sI, s0, s1]
        intro K hK
        rw [if_pos (by rfl)]
        go_simp
        exact hK.out _ _ ⟨b0, b1, b2, b3, b4, b5, b6, b7, b8, b9, b10, b11, b12, b13, b14, b15, b16, b17, b18, b19, b20, b21, b22, b23, b24, true, b26, b27, true, b29, b30, b31, b32, b33, b34, b35, b36, b37, b38, b39, b40, b41, b42, b43, b44, b45, b46, b47, b48, b49, b50, b51, b52, x35, x36, x37, x38, x39, x40, x41, x42, x43, x44, x45, x46, x47, x48, x49, x50, x51, x52, x53, x54, x55, x56, x57, x58, x59, .bool false, x61, x62, (.int .i64 (i : Nat)), x64, x65, x66, x67, x68, x69, x70, x71, x72, x73, x74, x75, x76, x77, x78, x79, x80, x81, x82, x83, x84, x85, x86, x87, ge, a80, c80, gl, a85, c85, (by simp only [Act.put, sI, s0, s1]), (by simp only [Act.put, sI, s0, s1]), hb, cd0, cd1, cd2, cd3, cd4, cd5, cd6, cd7, cd8, cd9, cd10, cd11, cd12, cd13, cd14, cd15, cd16, cd17, cd18, cd19, cd20, cd21, cd22, cd23, cd24, (fun _ => rfl), cd26, cd27, (fun _ => rfl), cd29, cd30, cd31, cd32, cd33, cd34, cd35, cd36, cd37, cd38, cd39, cd40, cd41, cd42, cd43, cd44, cd45, cd46, cd47, cd48, cd49, cd50, cd51, cd52, wf43, wf45, wf49, wf50⟩
      · rintro L a w ⟨b0,b1,b2,b3,b4,b5,b6,b7,b8,b9,b10,b11,b12,b13,b14,b15,b16,b17,b18,b19,b20,b21,b22,b23,b24,b25,b26,b27,b28,b29,b30,b31,b32,b33,b34,b35,b36,b37,b38,b39,b40,b41,b42,b43,b44,b45,b46,b47,b48,b49,b50,b51,b52,x35,x36,x37,x38,x39,x40,x41,x42,x43,x44,x45,x46,x47,x48,x49,x50,x51,x52,x53,x54,x55,x56,x57,x58,x59,x60,x61,x62,x63,x64,x65,x66,x67,x68,x69,x70,x71,x72,x73,x74,x75,x76,x77,x78,x79,x80,x81,x82,x83,x84,x85,x86,x87,ge,a80,c80,gl,a85,c85,rfl,rfl,hb,cd0,cd1,cd2,cd3,cd4,cd5,cd6,cd7,cd8,cd9,cd10,cd11,cd12,cd13,cd14,cd15,cd16,cd17,cd18,cd19,cd20,cd21,cd22,cd23,cd24,cd25,cd26,cd27,cd28,cd29,cd30,cd31,cd32,cd33,cd34,cd35,cd36,cd37,cd38,cd39,cd40,cd41,cd42,cd43,cd44,cd45,cd46,cd47,cd48,cd49,cd50,cd51,cd52,wf43,wf45,wf49,wf50⟩ hf hd
        have hf' : b29 = false := hf
        subst hf'
        have d27 : b27 = true := hd ⟨27, .data⟩ (by simp) rfl
        subst d27
        have d28 : b28 = true := hd ⟨28, .data⟩ (by simp) rfl
        subst d28
        have d25 : b25 = true := hd ⟨25, .guard⟩ (by simp) rfl
        subst d25
        obtain rfl := cd27.out rfl
        obtain rfl := cd28.out rfl
        obtain rfl := cd25.out rfl
        clear hf hd
        try simp only [sI, s0, s1]
        intro K hK
        rw [if_pos (by rfl)]
        go_simp
        exact hK.out _ _ ⟨b0, b1, b2, b3, b4, b5, b6, b7, b8, b9, b10, b11, b12, b13, b14, b15, b16, b17, b18, b19, b20, b21, b22, b23, b24, true, b26, true, true, true, b30, b31, b32, b33, b34, b35, b36, b37, b38, b39, b40, b41, b42, b43, b44, b45, b46, b47, b48, b49, b50, b51, b52, x35, x36, x37, x38, x39, x40, x41, x42, x43, x44, x45, x46, x47, x48, x49, x50, x51, x52, x53, x54, x55, x56, x57, x58, x59, .bool false, x61, .slice (some al) n c, .int .i64 (i : Nat), (.pointer (some (al.add (i * 32)))), x65, x66, x67, x68, x69, x70, x71, x72, x73, x74, x75, x76, x77, x78, x79, x80, x81, x82, x83, x84, x85, x86, x87, ge, a80, c80, gl, a85, c85, (by simp only [Act.put, sI, s0, s1]), (by simp only [Act.put, sI, s0, s1]), hb, cd0, cd1, cd2, cd3, cd4, cd5, cd6, cd7, cd8, cd9, cd10, cd11, cd12, cd13, cd14, cd15, cd16, cd17, cd18, cd19, cd20, cd21, cd22, cd23, cd24, (fun _ => rfl), cd26, (fun _ => rfl), (fun _ => rfl), (fun _ => rfl), cd30, cd31, cd32, cd33, cd34, cd35, cd36, cd37, cd38, cd39, cd40, cd41, cd42, cd43, cd44, cd45, cd46, cd47, cd48, cd49, cd50, cd51, cd52, wf43, wf45, wf49, wf50⟩
      · rintro L a w ⟨b0,b1,b2,b3,b4,b5,b6,b7,b8,b9,b10,b11,b12,b13,b14,b15,b16,b17,b18,b19,b20,b21,b22,b23,b24,b25,b26,b27,b28,b29,b30,b31,b32,b33,b34,b35,b36,b37,b38,b39,b40,b41,b42,b43,b44,b45,b46,b47,b48,b49,b50,b51,b52,x35,x36,x37,x38,x39,x40,x41,x42,x43,x44,x45,x46,x47,x48,x49,x50,x51,x52,x53,x54,x55,x56,x57,x58,x59,x60,x61,x62,x63,x64,x65,x66,x67,x68,x69,x70,x71,x72,x73,x74,x75,x76,x77,x78,x79,x80,x81,x82,x83,x84,x85,x86,x87,ge,a80,c80,gl,a85,c85,rfl,rfl,hb,cd0,cd1,cd2,cd3,cd4,cd5,cd6,cd7,cd8,cd9,cd10,cd11,cd12,cd13,cd14,cd15,cd16,cd17,cd18,cd19,cd20,cd21,cd22,cd23,cd24,cd25,cd26,cd27,cd28,cd29,cd30,cd31,cd32,cd33,cd34,cd35,cd36,cd37,cd38,cd39,cd40,cd41,cd42,cd43,cd44,cd45,cd46,cd47,cd48,cd49,cd50,cd51,cd52,wf43,wf45,wf49,wf50⟩ hf hd
        have hf' : b30 = false := hf
        subst hf'
        have d29 : b29 = true := hd ⟨29, .data⟩ (by simp) rfl
        subst d29
        have d25 : b25 = true := hd ⟨25, .guard⟩ (by simp) rfl
        subst d25
        obtain rfl := cd29.out rfl
        obtain rfl := cd25.out rfl
        clear hf hd
        try simp only [sI, s0, s1]
        intro K hK
        rw [if_pos (by rfl)]
        refine wp_load_at 27 _ rfl (al.add (i * 32)) rfl li (tI.past hb) _ _ u24 (hash_size _ hI32) ?_
        exact hK.out _ _ ⟨b0, b1, b2, b3, b4, b5, b6, b7, b8, b9, b10, b11, b12, b13, b14, b15, b16, b17, b18, b19, b20, b21, b22, b23, b24, true, b26, b27, b28, true, true, b31, b32, b33, b34, b35, b36, b37, b38, b39, b40, b41, b42, b43, b44, b45, b46, b47, b48, b49, b50, b51, b52, x35, x36, x37, x38, x39, x40, x41, x42, x43, x44, x45, x46, x47, x48, x49, x50, x51, x52, x53, x54, x55, x56, x57, x58, x59, .bool false, x61, x62, x63, .pointer (some (al.add (i * 32))), (.agg (bcs li).toArray), x66, x67, x68, x69, x70, x71, x72, x73, x74, x75, x76, x77, x78, x79, x80, x81, x82, x83, x84, x85, x86, x87, ge, a80, c80, gl, a85, c85, (by simp only [Act.put, sI, s0, s1]), (by simp only [Act.put, sI, s0, s1]), hb, cd0, cd1, cd2, cd3, cd4, cd5, cd6, cd7, cd8, cd9, cd10, cd11, cd12, cd13, cd14, cd15, cd16, cd17, cd18, cd19, cd20, cd21, cd22, cd23, cd24, (fun _ => rfl), cd26, cd27, cd28, (fun _ => rfl), (fun _ => rfl), cd31, cd32, cd33, cd34, cd35, cd36, cd37, cd38, cd39, cd40, cd41, cd42, cd43, cd44, cd45, cd46, cd47, cd48, cd49, cd50, cd51, cd52, wf43, wf45, wf49, wf50⟩
      · rintro L a w ⟨b0,b1,b2,b3,b4,b5,b6,b7,b8,b9,b10,b11,b12,b13,b14,b15,b16,b17,b18,b19,b20,b21,b22,b23,b24,b25,b26,b27,b28,b29,b30,b31,b32,b33,b34,b35,b36,b37,b38,b39,b40,b41,b42,b43,b44,b45,b46,b47,b48,b49,b50,b51,b52,x35,x36,x37,x38,x39,x40,x41,x42,x43,x44,x45,x46,x47,x48,x49,x50,x51,x52,x53,x54,x55,x56,x57,x58,x59,x60,x61,x62,x63,x64,x65,x66,x67,x68,x69,x70,x71,x72,x73,x74,x75,x76,x77,x78,x79,x80,x81,x82,x83,x84,x85,x86,x87,ge,a80,c80,gl,a85,c85,rfl,rfl,hb,cd0,cd1,cd2,cd3,cd4,cd5,cd6,cd7,cd8,cd9,cd10,cd11,cd12,cd13,cd14,cd15,cd16,cd17,cd18,cd19,cd20,cd21,cd22,cd23,cd24,cd25,cd26,cd27,cd28,cd29,cd30,cd31,cd32,cd33,cd34,cd35,cd36,cd37,cd38,cd39,cd40,cd41,cd42,cd43,cd44,cd45,cd46,cd47,cd48,cd49,cd50,cd51,cd52,wf43,wf45,wf49,wf50⟩ hf hd
        have hf' : b31 = false := hf
        subst hf'
        have d25 : b25 = true := hd ⟨25, .guard⟩ (by simp) rfl
        subst d25
        obtain rfl := cd25.out rfl
        clear hf hd
        try simp only [sI, s0, s1]
        intro K hK
        rw [if_pos (by rfl)]
        go_simp
        exact hK.out _ _ ⟨b0, b1, b2, b3, b4, b5, b6, b7, b8, b9, b10, b11, b12, b13, b14, b15, b16, b17, b18, b19, b20, b21, b22, b23, b24, true, b26, b27, b28, b29, b30, true, b32, b33, b34, b35, b36, b37, b38, b39, b40, b41, b42, b43, b44, b45, b46, b47, b48, b49, b50, b51, b52, x35, x36, x37, x38, x39, x40, x41, x42, x43, x44, x45, x46, x47, x48, x49, x50, x51, x52, x53, x54, x55, x56, x57, x58, x59, .bool false, x61, x62, x63, x64, x65, (.int .i64 (n : Nat)), x67, x68, x69, x70, x71, x72, x73, x74, x75, x76, x77, x78, x79, x80, x81, x82, x83, x84, x85, x86, x87, ge, a80, c80, gl, a85, c85, (by simp only [Act.put, sI, s0, s1]), (by simp only [Act.put, sI, s0, s1]), hb, cd0, cd1, cd2, cd3, cd4, cd5, cd6, cd7, cd8, cd9, cd10, cd11, cd12, cd13, cd14, cd15, cd16, cd17, cd18, cd19, cd20, cd21, cd22, cd23, cd24, (fun _ => rfl), cd26, cd27, cd28, cd29, cd30, (fun _ => rfl), cd32, cd33, cd34, cd35, cd36, cd37, cd38, cd39, cd40, cd41, cd42, cd43, cd44, cd45, cd46, cd47, cd48, cd49, cd50, cd51, cd52, wf43, wf45, wf49, wf50⟩
      · rintro L a w ⟨b0,b1,b2,b3,b4,b5,b6,b7,b8,b9,b10,b11,b12,b13,b14,b15,b16,b17,b18,b19,b20,b21,b22,b23,b24,b25,b26,b27,b28,b29,b30,b31,b32,b33,b34,b35,b36,b37,b38,b39,b40,b41,b42,b43,b44,b45,b46,b47,b48,b49,b50,b51,b52,x35,x36,x37,x38,x39,x40,x41,x42,x43,x44,x45,x46,x47,x48,x49,x50,x51,x52,x53,x54,x55,x56,x57,x58,x59,x60,x61,x62,x63,x64,x65,x66,x67,x68,x69,x70,x71,x72,x73,x74,x75,x76,x77,x78,x79,x80,x81,x82,x83,x84,x85,x86,x87,ge,a80,c80,gl,a85,c85,rfl,rfl,hb,cd0,cd1,cd2,cd3,cd4,cd5,cd6,cd7,cd8,cd9,cd10,cd11,cd12,cd13,cd14,cd15,cd16,cd17,cd18,cd19,cd20,cd21,cd22,cd23,cd24,cd25,cd26,cd27,cd28,cd29,cd30,cd31,cd32,cd33,cd34,cd35,cd36,cd37,cd38,cd39,cd40,cd41,cd42,cd43,cd44,cd45,cd46,cd47,cd48,cd49,cd50,cd51,cd52,wf43,wf45,wf49,wf50⟩ hf hd
        have hf' : b32 = false := hf
        subst hf'
        have d25 : b25 = true := hd ⟨25, .guard⟩ (by simp) rfl
        subst d25
        obtain rfl := cd25.out rfl
        clear hf hd
        try simp only [sI, s0, s1]
        intro K hK
        rw [if_pos (by rfl)]
        go_simp
        exact hK.out _ _ ⟨b0, b1, b2, b3, b4, b5, b6, b7, b8, b9, b10, b11, b12, b13, b14, b15, b16, b17, b18, b19, b20, b21, b22, b23, b24, true, b26, b27, b28, b29, b30, b31, true, b33, b34, b35, b36, b37, b38, b39, b40, b41, b42, b43, b44, b45, b46, b47, b48, b49, b50, b51, b52, x35, x36, x37, x38, x39, x40, x41, x42, x43, x44, x45, x46, x47, x48, x49, x50, x51, x52, x53, x54, x55, x56, x57, x58, x59, .bool false, x61, x62, x63, x64, x65, x66, (.slice ap m cp), x68, x69, x70, x71, x72, x73, x74, x75, x76, x77, x78, x79, x80, x81, x82, x83, x84, x85, x86, x87, ge, a80, c80, gl, a85, c85, (by simp only [Act.put, sI, s0, s1]), (by simp only [Act.put, sI, s0, s1]), hb, cd0, cd1, cd2, cd3, cd4, cd5, cd6, cd7, cd8, cd9, cd10, cd11, cd12, cd13, cd14, cd15, cd16, cd17, cd18, cd19, cd20, cd21, cd22, cd23, cd24, (fun _ => rfl), cd26, cd27, cd28, cd29, cd30, cd31, (fun _ => rfl), cd33, cd34, cd35, cd36, cd37, cd38, cd39, cd40, cd41, cd42, cd43, cd44, cd45, cd46, cd47, cd48, cd49, cd50, cd51, cd52, wf43, wf45, wf49, wf50⟩
      · rintro L a w ⟨b0,b1,b2,b3,b4,b5,b6,b7,b8,b9,b10,b11,b12,b13,b14,b15,b16,b17,b18,b19,b20,b21,b22,b23,b24,b25,b26,b27,b28,b29,b30,b31,b32,b33,b34,b35,b36,b37,b38,b39,b40,b41,b42,b43,b44,b45,b46,b47,b48,b49,b50,b51,b52,x35,x36,x37,x38,x39,x40,x41,x42,x43,x44,x45,x46,x47,x48,x49,x50,x51,x52,x53,x54,x55,x56,x57,x58,x59,x60,x61,x62,x63,x64,x65,x66,x67,x68,x69,x70,x71,x72,x73,x74,x75,x76,x77,x78,x79,x80,x81,x82,x83,x84,x85,x86,x87,ge,a80,c80,gl,a85,c85,rfl,rfl,hb,cd0,cd1,cd2,cd3,cd4,cd5,cd6,cd7,cd8,cd9,cd10,cd11,cd12,cd13,cd14,cd15,cd16,cd17,cd18,cd19,cd20,cd21,cd22,cd23,cd24,cd25,cd26,cd27,cd28,cd29,cd30,cd31,cd32,cd33,cd34,cd35,cd36,cd37,cd38,cd39,cd40,cd41,cd42,cd43,cd44,cd45,cd46,cd47,cd48,cd49,cd50,cd51,cd52,wf43,wf45,wf49,wf50⟩ hf hd
        have hf' : b33 = false := hf
        subst hf'
        have d26 : b26 = true := hd ⟨26, .data⟩ (by simp) rfl
        subst d26
        have d30 : b30 = true := hd ⟨30, .data⟩ (by simp) rfl
        subst d30
        have d31 : b31 = true := hd ⟨31, .data⟩ (by simp) rfl
        subst d31
        have d32 : b32 = true := hd ⟨32, .data⟩ (by simp) rfl
        subst d32
        have d25 : b25 = true := hd ⟨25, .chain⟩ (by simp) rfl
        subst d25
        obtain rfl := cd26.out rfl
        obtain rfl := cd30.out rfl
        obtain rfl := cd31.out rfl
        obtain rfl := cd32.out rfl
        obtain rfl := cd25.out rfl
        clear hf hd
        try simp only [sI, s0, s1]
        intro K hK
        rw [if_pos (by rfl)]
        go_simp
        go_at_call 9
        refine (M3 _ (hC.past hb) (hP.past hb)).mono ?_
        rintro e w2 ⟨rfl, bx⟩
        exact hK.out _ _ ⟨b0, b1, b2, b3, b4, b5, b6, b7, b8, b9, b10, b11, b12, b13, b14, b15, b16, b17, b18, b19, b20, b21, b22, b23, b24, true, true, b27, b28, b29, true, true, true, true, b34, b35, b36, b37, b38, b39, b40, b41, b42, b43, b44, b45, b46, b47, b48, b49, b50, b51, b52, x35, x36, x37, x38, x39, x40, x41, x42, x43, x44, x45, x46, x47, x48, x49, x50, x51, x52, x53, x54, x55, x56, x57, x58, x59, .bool false, .agg (bcs r).toArray, x62, x63, x64, .agg (bcs li).toArray, .int .i64 (n : Nat), .slice ap m cp, (.bool false), x69, x70, x71, x72, x73, x74, x75, x76, x77, x78, x79, x80, x81, x82, x83, x84, x85, x86, x87, ge, a80, c80, gl, a85, c85, (by simp only [Act.put, sI, s0, s1]), (by simp only [Act.put, sI, s0, s1]), hb.trans (bx.mono hb.size), cd0, cd1, cd2, cd3, cd4, cd5, cd6, cd7, cd8, cd9, cd10, cd11, cd12, cd13, cd14, cd15, cd16, cd17, cd18, cd19, cd20, cd21, cd22, cd23, cd24, (fun _ => rfl), (fun _ => rfl), cd27, cd28, cd29, (fun _ => rfl), (fun _ => rfl), (fun _ => rfl), (fun _ => rfl), cd34, cd35, cd36, cd37, cd38, cd39, cd40, cd41, cd42, cd43, cd44, cd45, cd46, cd47, cd48, cd49, cd50, cd51, cd52, (fun h h2 => (wf43.out h h2).past bx), (fun h h2 => (wf45.out h h2).past bx), (fun h h2 => (wf49.out h h2).past bx), (fun h => (wf50.out h).past bx)⟩
      · rintro L a w ⟨b0,b1,b2,b3,b4,b5,b6,b7,b8,b9,b10,b11,b12,b13,b14,b15,b16,b17,b18,b19,b20,b21,b22,b23,b24,b25,b26,b27,b28,b29,b30,b31,b32,b33,b34,b35,b36,b37,b38,b39,b40,b41,b42,b43,b44,b45,b46,b47,b48,b49,b50,b51,b52,x35,x36,x37,x38,x39,x40,x41,x42,x43,x44,x45,x46,x47,x48,x49,x50,x51,x52,x53,x54,x55,x56,x57,x58,x59,x60,x61,x62,x63,x64,x65,x66,x67,x68,x69,x70,x71,x72,x73,x74,x75,x76,x77,x78,x79,x80,x81,x82,x83,x84,x85,x86,x87,ge,a80,c80,gl,a85,c85,rfl,rfl,hb,cd0,cd1,cd2,cd3,cd4,cd5,cd6,cd7,cd8,cd9,cd10,cd11,cd12,cd13,cd14,cd15,cd16,cd17,cd18,cd19,cd20,cd21,cd22,cd23,cd24,cd25,cd26,cd27,cd28,cd29,cd30,cd31,cd32,cd33,cd34,cd35,cd36,cd37,cd38,cd39,cd40,cd41,cd42,cd43,cd44,cd45,cd46,cd47,cd48,cd49,cd50,cd51,cd52,wf43,wf45,wf49,wf50⟩ hf hd
        have hf' : b34 = false := hf
        subst hf'
        have d25 : b25 = true := hd ⟨25, .data⟩ (by simp) rfl
        subst d25
        have d33 : b33 = true := hd ⟨33, .data⟩ (by simp) rfl
        subst d33
        obtain rfl := cd25.out rfl
        obtain rfl := cd33.out rfl
        clear hf hd
        try simp only [sI, s0, s1]
        intro K hK
        rw [if_pos (by rfl)]
        go_simp
        exact hK.out _ _ ⟨b0, b1, b2, b3, b4, b5, b6, b7, b8, b9, b10, b11, b12, b13, b14, b15, b16, b17, b18, b19, b20, b21, b22, b23, b24, true, b26, b27, b28, b29, b30, b31, b32, true, true, b35, b36, b37, b38, b39, b40, b41, b42, b43, b44, b45, b46, b47, b48, b49, b50, b51, b52, x35, x36, x37, x38, x39, x40, x41, x42, x43, x44, x45, x46, x47, x48, x49, x50, x51, x52, x53, x54, x55, x56, x57, x58, x59, .bool false, x61, x62, x63, x64, x65, x66, x67, .bool false, (.bool false), x70, x71, x72, x73, x74, x75, x76, x77, x78, x79, x80, x81, x82, x83, x84, x85, x86, x87, ge, a80, c80, gl, a85, c85, (by simp only [Act.put, sI, s0, s1]), (by simp only [Act.put, sI, s0, s1]), hb, cd0, cd1, cd2, cd3, cd4, cd5, cd6, cd7, cd8, cd9, cd10, cd11, cd12, cd13, cd14, cd15, cd16, cd17, cd18, cd19, cd20, cd21, cd22, cd23, cd24, (fun _ => rfl), cd26, cd27, cd28, cd29, cd30, cd31, cd32, (fun _ => rfl), (fun _ => rfl), cd35, cd36, cd37, cd38, cd39, cd40, cd41, cd42, cd43, cd44, cd45, cd46, cd47, cd48, cd49, cd50, cd51, cd52, wf43, wf45, wf49, wf50⟩
      · rintro L a w ⟨b0,b1,b2,b3,b4,b5,b6,b7,b8,b9,b10,b11,b12,b13,b14,b15,b16,b17,b18,b19,b20,b21,b22,b23,b24,b25,b26,b27,b28,b29,b30,b31,b32,b33,b34,b35,b36,b37,b38,b39,b40,b41,b42,b43,b44,b45,b46,b47,b48,b49,b50,b51,b52,x35,x36,x37,x38,x39,x40,x41,x42,x43,x44,x45,x46,x47,x48,x49,x50,x51,x52,x53,x54,x55,x56,x57,x58,x59,x60,x61,x62,x63,x64,x65,x66,x67,x68,x69,x70,x71,x72,x73,x74,x75,x76,x77,x78,x79,x80,x81,x82,x83,x84,x85,x86,x87,ge,a80,c80,gl,a85,c85,rfl,rfl,hb,cd0,cd1,cd2,cd3,cd4,cd5,cd6,cd7,cd8,cd9,cd10,cd11,cd12,cd13,cd14,cd15,cd16,cd17,cd18,cd19,cd20,cd21,cd22,cd23,cd24,cd25,cd26,cd27,cd28,cd29,cd30,cd31,cd32,cd33,cd34,cd35,cd36,cd37,cd38,cd39,cd40,cd41,cd42,cd43,cd44,cd45,cd46,cd47,cd48,cd49,cd50,cd51,cd52,wf43,wf45,wf49,wf50⟩ hf hd
        have hf' : b35 = false := hf
        subst hf'
        have d34 : b34 = true := hd ⟨34, .data⟩ (by simp) rfl
        subst d34
        have d33 : b33 = true := hd ⟨33, .chain⟩ (by simp) rfl
        subst d33
        obtain rfl := cd34.out rfl
        obtain rfl := cd33.out rfl
        clear hf hd
        try simp only [sI, s0, s1]
        intro K hK
        rw [if_pos (by rfl)]
        go_simp
        exact hK.out _ _ ⟨b0, b1, b2, b3, b4, b5, b6, b7, b8, b9, b10, b11, b12, b13, b14, b15, b16, b17, b18, b19, b20, b21, b22, b23, b24, b25, b26, b27, b28, b29, b30, b31, b32, true, true, true, b36, b37, b38, b39, b40, b41, b42, b43, b44, b45, b46, b47, b48, b49, b50, b51, b52, x35, x36, x37, x38, x39, x40, x41, x42, x43, x44, x45, x46, x47, x48, x49, x50, x51, x52, x53, x54, x55, x56, x57, x58, x59, x60, x61, x62, x63, x64, x65, x66, x67, .bool false, .bool false, (.bool false), x71, x72, x73, x74, x75, x76, x77, x78, x79, x80, x81, x82, x83, x84, x85, x86, x87, ge, a80, c80, gl, a85, c85, (by simp only [Act.put, sI, s0, s1]), (by simp only [Act.put, sI, s0, s1]), hb, cd0, cd1, cd2, cd3, cd4, cd5, cd6, cd7, cd8, cd9, cd10, cd11, cd12, cd13, cd14, cd15, cd16, cd17, cd18, cd19, cd20, cd21, cd22, cd23, cd24, cd25, cd26, cd27, cd28, cd29, cd30, cd31, cd32, (fun _ => rfl), (fun _ => rfl), (fun _ => rfl), cd36, cd37, cd38, cd39, cd40, cd41, cd42, cd43, cd44, cd45, cd46, cd47, cd48, cd49, cd50, cd51, cd52, wf43, wf45, wf49, wf50⟩
      · rintro L a w ⟨b0,b1,b2,b3,b4,b5,b6,b7,b8,b9,b10,b11,b12,b13,b14,b15,b16,b17,b18,b19,b20,b21,b22,b23,b24,b25,b26,b27,b28,b29,b30,b31,b32,b33,b34,b35,b36,b37,b38,b39,b40,b41,b42,b43,b44,b45,b46,b47,b48,b49,b50,b51,b52,x35,x36,x37,x38,x39,x40,x41,x42,x43,x44,x45,x46,x47,x48,x49,x50,x51,x52,x53,x54,x55,x56,x57,x58,x59,x60,x61,x62,x63,x64,x65,x66,x67,x68,x69,x70,x71,x72,x73,x74,x75,x76,x77,x78,x79,x80,x81,x82,x83,x84,x85,x86,x87,ge,a80,c80,gl,a85,c85,rfl,rfl,hb,cd0,cd1,cd2,cd3,cd4,cd5,cd6,cd7,cd8,cd9,cd10,cd11,cd12,cd13,cd14,cd15,cd16,cd17,cd18,cd19,cd20,cd21,cd22,cd23,cd24,cd25,cd26,cd27,cd28,cd29,cd30,cd31,cd32,cd33,cd34,cd35,cd36,cd37,cd38,cd39,cd40,cd41,cd42,cd43,cd44,cd45,cd46,cd47,cd48,cd49,cd50,cd51,cd52,wf43,wf45,wf49,wf50⟩ hf hd
        have hf' : b36 = false := hf
        subst hf'
        have d35 : b35 = true := hd ⟨35, .guard⟩ (by simp) rfl
        subst d35
        obtain rfl := cd35.out rfl
        clear hf hd
        try simp only [sI, s0, s1]
        intro K hK
        rw [if_pos (by rfl)]
        refine wp_load_at 27 _ rfl ⟨g, 0, none⟩ rfl r (hg.past hb).at_ _ _ u24 (hash_size _ HR) ?_
        exact hK.out _ _ ⟨b0, b1, b2, b3, b4, b5, b6, b7, b8, b9, b10, b11, b12, b13, b14, b15, b16, b17, b18, b19, b20, b21, b22, b23, b24, b25, b26, b27, b28, b29, b30, b31, b32, b33, b34, true, true, b37, b38, b39, b40, b41, b42, b43, b44, b45, b46, b47, b48, b49, b50, b51, b52, x35, x36, x37, x38, x39, x40, x41, x42, x43, x44, x45, x46, x47, x48, x49, x50, x51, x52, x53, x54, x55, x56, x57, x58, x59, x60, x61, x62, x63, x64, x65, x66, x67, x68, x69, .bool false, (.agg (bcs r).toArray), x72, x73, x74, x75, x76, x77, x78, x79, x80, x81, x82, x83, x84, x85, x86, x87, ge, a80, c80, gl, a85, c85, (by simp only [Act.put, sI, s0, s1]), (by simp only [Act.put, sI, s0, s1]), hb, cd0, cd1, cd2, cd3, cd4, cd5, cd6, cd7, cd8, cd9, cd10, cd11, cd12, cd13, cd14, cd15, cd16, cd17, cd18, cd19, cd20, cd21, cd22, cd23, cd24, cd25, cd26, cd27, cd28, cd29, cd30, cd31, cd32, cd33, cd34, (fun _ => rfl), (fun _ => rfl), cd37, cd38, cd39, cd40, cd41, cd42, cd43, cd44, cd45, cd46, cd47, cd48, cd49, cd50, cd51, cd52, wf43, wf45, wf49, wf50⟩
      · rintro L a w ⟨b0,b1,b2,b3,b4,b5,b6,b7,b8,b9,b10,b11,b12,b13,b14,b15,b16,b17,b18,b19,b20,b21,b22,b23,b24,b25,b26,b27,b28,b29,b30,b31,b32,b33,b34,b35,b36,b37,b38,b39,b40,b41,b42,b43,b44,b45,b46,b47,b48,b49,b50,b51,b52,x35,x36,x37,x38,x39,x40,x41,x42,x43,x44,x45,x46,x47,x48,x49,x50,x51,x52,x53,x54,x55,x56,x57,x58,x59,x60,x61,x62,x63,x64,x65,x66,x67,x68,x69,x70,x71,x72,x73,x74,x75,x76,x77,x78,x79,x80,x81,x82,x83,x84,x85,x86,x87,ge,a80,c80,gl,a85,c85,rfl,rfl,hb,cd0,cd1,cd2,cd3,cd4,cd5,cd6,cd7,cd8,cd9,cd10,cd11,cd12,cd13,cd14,cd15,cd16,cd17,cd18,cd19,cd20,cd21,cd22,cd23,cd24,cd25,cd26,cd27,cd28,cd29,cd30,cd31,cd32,cd33,cd34,cd35,cd36,cd37,cd38,cd39,cd40,cd41,cd42,cd43,cd44,cd45,cd46,cd47,cd48,cd49,cd50,cd51,cd52,wf43,wf45,wf49,wf50⟩ hf hd
        have hf' : b37 = false := hf
        subst hf'
        have d35 : b35 = true := hd ⟨35, .guard⟩ (by simp) rfl
        subst d35
        obtain rfl := cd35.out rfl
        clear hf hd
        try simp only [sI, s0, s1]
        intro K hK
        rw [if_pos (by rfl)]
        go_simp
        exact hK.out _ _ ⟨b0, b1, b2, b3, b4, b5, b6, b7, b8, b9, b10, b11, b12, b13, b14, b15, b16, b17, b18, b19, b20, b21, b22, b23, b24, b25, b26, b27, b28, b29, b30, b31, b32, b33, b34, true, b36, true, b38, b39, b40, b41, b42, b43, b44, b45, b46, b47, b48, b49, b50, b51, b52, x35, x36, x37, x38, x39, x40, x41, x42, x43, x44, x45, x46, x47, x48, x49, x50, x51, x52, x53, x54, x55, x56, x57, x58, x59, x60, x61, x62, x63, x64, x65, x66, x67, x68, x69, .bool false, x71, (.slice (some al) n c), x73, x74, x75, x76, x77, x78, x79, x80, x81, x82, x83, x84, x85, x86, x87, ge, a80, c80, gl, a85, c85, (by simp only [Act.put, sI, s0, s1]), (by simp only [Act.put, sI, s0, s1]), hb, cd0, cd1, cd2, cd3, cd4, cd5, cd6, cd7, cd8, cd9, cd10, cd11, cd12, cd13, cd14, cd15, cd16, cd17, cd18, cd19, cd20, cd21, cd22, cd23, cd24, cd25, cd26, cd27, cd28, cd29, cd30, cd31, cd32, cd33, cd34, (fun _ => rfl), cd36, (fun _ => rfl), cd38, cd39, cd40, cd41, cd42, cd43, cd44, cd45, cd46, cd47, cd48, cd49, cd50, cd51, cd52, wf43, wf45, wf49, wf50⟩
      · rintro L a w ⟨b0,b1,b2,b3,b4,b5,b6,b7,b8,b9,b10,b11,b12,b13,b14,b15,b16,b17,b18,b19,b20,b21,b22,b23,b24,b25,b26,b27,b28,b29,b30,b31,b32,b33,b34,b35,b36,b37,b38,b39,b40,b41,b42,b43,b44,b45,b46,b47,b48,b49,b50,b51,b52,x35,x36,x37,x38,x39,x40,x41,x42,x43,x44,x45,x46,x47,x48,x49,x50,x51,x52,x53,x54,x55,x56,x57,x58,x59,x60,x61,x62,x63,x64,x65,x66,x67,x68,x69,x70,x71,x72,x73,x74,x75,x76,x77,x78,x79,x80,x81,x82,x83,x84,x85,x86,x87,ge,a80,c80,gl,a85,c85,rfl,rfl,hb,cd0,cd1,cd2,cd3,cd4,cd5,cd6,cd7,cd8,cd9,cd10,cd11,cd12,cd13,cd14,cd15,cd16,cd17,cd18,cd19,cd20,cd21,cd22,cd23,cd24,cd25,cd26,cd27,cd28,cd29,cd30,cd31,cd32,cd33,cd34,cd35,cd36,cd37,cd38,cd39,cd40,cd41,cd42,cd43,cd44,cd45,cd46,cd47,cd48,cd49,cd50,cd51,cd52,wf43,wf45,wf49,wf50⟩ hf hd
        have hf' : b38 = false := hf
        subst hf'
        have d35 : b35 = true := hd ⟨35, .guard⟩ (by simp) rfl
        subst d35
        obtain rfl := cd35.out rfl
        clear hf hd
        try simp only [sI, s0, s1]
        intro K hK
        rw [if_pos (by rfl)]
        go_simp
        exact hK.out _ _ ⟨b0, b1, b2, b3, b4, b5, b6, b7, b8, b9, b10, b11, b12, b13, b14, b15, b16, b17, b18, b19, b20, b21, b22, b23, b24, b25, b26, b27, b28, b29, b30, b31, b32, b33, b34, true, b36, b37, true, b39, b40, b41, b42, b43, b44, b45, b46, b47, b48, b49, b50, b51, b52, x35, x36, x37, x38, x39, x40, x41, x42, x43, x44, x45, x46, x47, x48, x49, x50, x51, x52, x53, x54, x55, x56, x57, x58, x59, x60, x61, x62, x63, x64, x65, x66, x67, x68, x69, .bool false, x71, x72, (.int .i64 (i : Nat)), x74, x75, x76, x77, x78, x79, x80, x81, x82, x83, x84, x85, x86, x87, ge, a80, c80, gl, a85, c85, (by simp only [Act.put, sI, s0, s1]), (by simp only [Act.put, sI, s0, s1]), hb, cd0, cd1, cd2, cd3, cd4, cd5, cd6, cd7, cd8, cd9, cd10, cd11, cd12, cd13, cd14, cd15, cd16, cd17, cd18, cd19, cd20, cd21, cd22, cd23, cd24, cd25, cd26, cd27, cd28, cd29, cd30, cd31, cd32, cd33, cd34, (fun _ => rfl), cd36, cd37, (fun _ => rfl), cd39, cd40, cd41, cd42, cd43, cd44, cd45, cd46, cd47, cd48, cd49, cd50, cd51, cd52, wf43, wf45, wf49, wf50⟩
      · rintro L a w ⟨b0,b1,b2,b3,b4,b5,b6,b7,b8,b9,b10,b11,b12,b13,b14,b15,b16,b17,b18,b19,b20,b21,b22,b23,b24,b25,b26,b27,b28,b29,b30,b31,b32,b33,b34,b35,b36,b37,b38,b39,b40,b41,b42,b43,b44,b45,b46,b47,b48,b49,b50,b51,b52,x35,x36,x37,x38,x39,x40,x41,x42,x43,x44,x45,x46,x47,x48,x49,x50,x51,x52,x53,x54,x55,x56,x57,x58,x59,x60,x61,x62,x63,x64,x65,x66,x67,x68,x69,x70,x71,x72,x73,x74,x75,x76,x77,x78,x79,x80,x81,x82,x83,x84,x85,x86,x87,ge,a80,c80,gl,a85,c85,rfl,rfl,hb,cd0,cd1,cd2,cd3,cd4,cd5,cd6,cd7,cd8,cd9,cd10,cd11,cd12,cd13,cd14,cd15,cd16,cd17,cd18,cd19,cd20,cd21,cd22,cd23,cd24,cd25,cd26,cd27,cd28,cd29,cd30,cd31,cd32,cd33,cd34,cd35,cd36,cd37,cd38,cd39,cd40,cd41,cd42,cd43,cd44,cd45,cd46,cd47,cd48,cd49,cd50,cd51,cd52,wf43,wf45,wf49,wf50⟩ hf hd
        have hf' : b39 = false := hf
        subst hf'
        have d37 : b37 = true := hd ⟨37, .data⟩ (by simp) rfl
        subst d37
        have d38 : b38 = true := hd ⟨38, .data⟩ (by simp) rfl
        subst d38
        have d35 : b35 = true := hd ⟨35, .guard⟩ (by simp) rfl
        subst d35
        obtain rfl := cd37.out rfl
        obtain rfl := cd38.out rfl
        obtain rfl := cd35.out rfl
        clear hf hd
        try simp only [sI, s0, s1]
        intro K hK
        rw [if_pos (by rfl)]
        go_simp
        exact hK.out _ _ ⟨b0, b1, b2, b3, b4, b5, b6, b7, b8, b9, b10, b11, b12, b13, b14, b15, b16, b17, b18, b19, b20, b21, b22, b23, b24, b25, b26, b27, b28, b29, b30, b31, b32, b33, b34, true, b36, true, true, true, b40, b41, b42, b43, b44, b45, b46, b47, b48, b49, b50, b51, b52, x35, x36, x37, x38, x39, x40, x41, x42, x43, x44, x45, x46, x47, x48, x49, x50, x51, x52, x53, x54, x55, x56, x57, x58, x59, x60, x61, x62, x63, x64, x65, x66, x67, x68, x69, .bool false, x71, .slice (some al) n c, .int .i64 (i : Nat), (.pointer (some (al.add (i * 32)))), x75, x76, x77, x78, x79, x80, x81, x82, x83, x84, x85, x86, x87, ge, a80, c80, gl, a85, c85, (by simp only [Act.put, sI, s0, s1]), (by simp only [Act.put, sI, s0, s1]), hb, cd0, cd1, cd2, cd3, cd4, cd5, cd6, cd7, cd8, cd9, cd10, cd11, cd12, cd13, cd14, cd15, cd16, cd17, cd18, cd19, cd20, cd21, cd22, cd23, cd24, cd25, cd26, cd27, cd28, cd29, cd30, cd31, cd32, cd33, cd34, (fun _ => rfl), cd36, (fun _ => rfl), (fun _ => rfl), (fun _ => rfl), cd40, cd41, cd42, cd43, cd44, cd45, cd46, cd47, cd48, cd49, cd50, cd51, cd52, wf43, wf45, wf49, wf50⟩
      · rintro L a w ⟨b0,b1,b2,b3,b4,b5,b6,b7,b8,b9,b10,b11,b12,b13,b14,b15,b16,b17,b18,b19,b20,b21,b22,b23,b24,b25,b26,b27,b28,b29,b30,b31,b32,b33,b34,b35,b36,b37,b38,b39,b40,b41,b42,b43,b44,b45,b46,b47,b48,b49,b50,b51,b52,x35,x36,x37,x38,x39,x40,x41,x42,x43,x44,x45,x46,x47,x48,x49,x50,x51,x52,x53,x54,x55,x56,x57,x58,x59,x60,x61,x62,x63,x64,x65,x66,x67,x68,x69,x70,x71,x72,x73,x74,x75,x76,x77,x78,x79,x80,x81,x82,x83,x84,x85,x86,x87,ge,a80,c80,gl,a85,c85,rfl,rfl,hb,cd0,cd1,cd2,cd3,cd4,cd5,cd6,cd7,cd8,cd9,cd10,cd11,cd12,cd13,cd14,cd15,cd16,cd17,cd18,cd19,cd20,cd21,cd22,cd23,cd24,cd25,cd26,cd27,cd28,cd29,cd30,cd31,cd32,cd33,cd34,cd35,cd36,cd37,cd38,cd39,cd40,cd41,cd42,cd43,cd44,cd45,cd46,cd47,cd48,cd49,cd50,cd51,cd52,wf43,wf45,wf49,wf50⟩ hf hd
        have hf' : b40 = false := hf
        subst hf'
        have d39 : b39 = true := hd ⟨39, .data⟩ (by simp) rfl
        subst d39
        have d35 : b35 = true := hd ⟨35, .guard⟩ (by simp) rfl
        subst d35
        obtain rfl := cd39.out rfl
        obtain rfl := cd35.out rfl
        clear hf hd
        try simp only [sI, s0, s1]
        intro K hK
        rw [if_pos (by rfl)]
        refine wp_load_at 27 _ rfl (al.add (i * 32)) rfl li (tI.past hb) _ _ u24 (hash_size _ hI32) ?_
        exact hK.out _ _ ⟨b0, b1, b2, b3, b4, b5, b6, b7, b8, b9, b10, b11, b12, b13, b14, b15, b16, b17, b18, b19, b20, b21, b22, b23, b24, b25, b26, b27, b28, b29, b30, b31, b32, b33, b34, true, b36, b37, b38, true, true, b41, b42, b43, b44, b45, b46, b47, b48, b49, b50, b51, b52, x35, x36, x37, x38, x39, x40, x41, x42, x43, x44, x45, x46, x47, x48, x49, x50, x51, x52, x53, x54, x55, x56, x57, x58, x59, x60, x61, x62, x63, x64, x65, x66, x67, x68, x69, .bool false, x71, x72, x73, .pointer (some (al.add (i * 32))), (.agg (bcs li).toArray), x76, x77, x78, x79, x80, x81, x82, x83, x84, x85, x86, x87, ge, a80, c80, gl, a85, c85, (by simp only [Act.put, sI, s0, s1]), (by simp only [Act.put, sI, s0, s1]), hb, cd0, cd1, cd2, cd3, cd4, cd5, cd6, cd7, cd8, cd9, cd10, cd11, cd12, cd13, cd14, cd15, cd16, cd17, cd18, cd19, cd20, cd21, cd22, cd23, cd24, cd25, cd26, cd27, cd28, cd29, cd30, cd31, cd32, cd33, cd34, (fun _ => rfl), cd36, cd37, cd38, (fun _ => rfl), (fun _ => rfl), cd41, cd42, cd43, cd44, cd45, cd46, cd47, cd48, cd49, cd50, cd51, cd52, wf43, wf45, wf49, wf50⟩
      · rintro L a w ⟨b0,b1,b2,b3,b4,b5,b6,b7,b8,b9,b10,b11,b12,b13,b14,b15,b16,b17,b18,b19,b20,b21,b22,b23,b24,b25,b26,b27,b28,b29,b30,b31,b32,b33,b34,b35,b36,b37,b38,b39,b40,b41,b42,b43,b44,b45,b46,b47,b48,b49,b50,b51,b52,x35,x36,x37,x38,x39,x40,x41,x42,x43,x44,x45,x46,x47,x48,x49,x50,x51,x52,x53,x54,x55,x56,x57,x58,x59,x60,x61,x62,x63,x64,x65,x66,x67,x68,x69,x70,x71,x72,x73,x74,x75,x76,x77,x78,x79,x80,x81,x82,x83,x84,x85,x86,x87,ge,a80,c80,gl,a85,c85,rfl,rfl,hb,cd0,cd1,cd2,cd3,cd4,cd5,cd6,cd7,cd8,cd9,cd10,cd11,cd12,cd13,cd14,cd15,cd16,cd17,cd18,cd19,cd20,cd21,cd22,cd23,cd24,cd25,cd26,cd27,cd28,cd29,cd30,cd31,cd32,cd33,cd34,cd35,cd36,cd37,cd38,cd39,cd40,cd41,cd42,cd43,cd44,cd45,cd46,cd47,cd48,cd49,cd50,cd51,cd52,wf43,wf45,wf49,wf50⟩ hf hd
        have hf' : b41 = false := hf
        subst hf'
        have d35 : b35 = true := hd ⟨35, .guard⟩ (by simp) rfl
        subst d35
        obtain rfl := cd35.out rfl
        clear hf hd
        try simp only [sI, s0, s1]
        intro K hK
        rw [if_pos (by rfl)]
        go_simp
        exact hK.out _ _ ⟨b0, b1, b2, b3, b4, b5, b6, b7, b8, b9, b10, b11, b12, b13, b14, b15, b16, b17, b18, b19, b20, b21, b22, b23, b24, b25, b26, b27, b28, b29, b30, b31, b32, b33, b34, true, b36, b37, b38, b39, b40, true, b42, b43, b44, b45, b46, b47, b48, b49, b50, b51, b52, x35, x36, x37, x38, x39, x40, x41, x42, x43, x44, x45, x46, x47, x48, x49, x50, x51, x52, x53, x54, x55, x56, x57, x58, x59, x60, x61, x62, x63, x64, x65, x66, x67, x68, x69, .bool false, x71, x72, x73, x74, x75, (.int .i64 (i : Nat)), x77, x78, x79, x80, x81, x82, x83, x84, x85, x86, x87, ge, a80, c80, gl, a85, c85, (by simp only [Act.put, sI, s0, s1]), (by simp only [Act.put, sI, s0, s1]), hb, cd0, cd1, cd2, cd3, cd4, cd5, cd6, cd7, cd8, cd9, cd10, cd11, cd12, cd13, cd14, cd15, cd16, cd17, cd18, cd19, cd20, cd21, cd22, cd23, cd24, cd25, cd26, cd27, cd28, cd29, cd30, cd31, cd32, cd33, cd34, (fun _ => rfl), cd36, cd37, cd38, cd39, cd40, (fun _ => rfl), cd42, cd43, cd44, cd45, cd46, cd47, cd48, cd49, cd50, cd51, cd52, wf43, wf45, wf49, wf50⟩
      · rintro L a w ⟨b0,b1,b2,b3,b4,b5,b6,b7,b8,b9,b10,b11,b12,b13,b14,b15,b16,b17,b18,b19,b20,b21,b22,b23,b24,b25,b26,b27,b28,b29,b30,b31,b32,b33,b34,b35,b36,b37,b38,b39,b40,b41,b42,b43,b44,b45,b46,b47,b48,b49,b50,b51,b52,x35,x36,x37,x38,x39,x40,x41,x42,x43,x44,x45,x46,x47,x48,x49,x50,x51,x52,x53,x54,x55,x56,x57,x58,x59,x60,x61,x62,x63,x64,x65,x66,x67,x68,x69,x70,x71,x72,x73,x74,x75,x76,x77,x78,x79,x80,x81,x82,x83,x84,x85,x86,x87,ge,a80,c80,gl,a85,c85,rfl,rfl,hb,cd0,cd1,cd2,cd3,cd4,cd5,cd6,cd7,cd8,cd9,cd10,cd11,cd12,cd13,cd14,cd15,cd16,cd17,cd18,cd19,cd20,cd21,cd22,cd23,cd24,cd25,cd26,cd27,cd28,cd29,cd30,cd31,cd32,cd33,cd34,cd35,cd36,cd37,cd38,cd39,cd40,cd41,cd42,cd43,cd44,cd45,cd46,cd47,cd48,cd49,cd50,cd51,cd52,wf43,wf45,wf49,wf50⟩ hf hd
        have hf' : b42 = false := hf
        subst hf'
        have d35 : b35 = true := hd ⟨35, .guard⟩ (by simp) rfl
        subst d35
        obtain rfl := cd35.out rfl
        clear hf hd
        try simp only [sI, s0, s1]
        intro K hK
        rw [if_pos (by rfl)]
        go_simp
        exact hK.out _ _ ⟨b0, b1, b2, b3, b4, b5, b6, b7, b8, b9, b10, b11, b12, b13, b14, b15, b16, b17, b18, b19, b20, b21, b22, b23, b24, b25, b26, b27, b28, b29, b30, b31, b32, b33, b34, true, b36, b37, b38, b39, b40, b41, true, b43, b44, b45, b46, b47, b48, b49, b50, b51, b52, x35, x36, x37, x38, x39, x40, x41, x42, x43, x44, x45, x46, x47, x48, x49, x50, x51, x52, x53, x54, x55, x56, x57, x58, x59, x60, x61, x62, x63, x64, x65, x66, x67, x68, x69, .bool false, x71, x72, x73, x74, x75, x76, (.int .i64 (n : Nat)), x78, x79, x80, x81, x82, x83, x84, x85, x86, x87, ge, a80, c80, gl, a85, c85, (by simp only [Act.put, sI, s0, s1]), (by simp only [Act.put, sI, s0, s1]), hb, cd0, cd1, cd2, cd3, cd4, cd5, cd6, cd7, cd8, cd9, cd10, cd11, cd12, cd13, cd14, cd15, cd16, cd17, cd18, cd19, cd20, cd21, cd22, cd23, cd24, cd25, cd26, cd27, cd28, cd29, cd30, cd31, cd32, cd33, cd34, (fun _ => rfl), cd36, cd37, cd38, cd39, cd40, cd41, (fun _ => rfl), cd43, cd44, cd45, cd46, cd47, cd48, cd49, cd50, cd51, cd52, wf43, wf45, wf49, wf50⟩
      · rintro L a w ⟨b0,b1,b2,b3,b4,b5,b6,b7,b8,b9,b10,b11,b12,b13,b14,b15,b16,b17,b18,b19,b20,b21,b22,b23,b24,b25,b26,b27,b28,b29,b30,b31,b32,b33,b34,b35,b36,b37,b38,b39,b40,b41,b42,b43,b44,b45,b46,b47,b48,b49,b50,b51,b52,x35,x36,x37,x38,x39,x40,x41,x42,x43,x44,x45,x46,x47,x48,x49,x50,x51,x52,x53,x54,x55,x56,x57,x58,x59,x60,x61,x62,x63,x64,x65,x66,x67,x68,x69,x70,x71,x72,x73,x74,x75,x76,x77,x78,x79,x80,x81,x82,x83,x84,x85,x86,x87,ge,a80,c80,gl,a85,c85,rfl,rfl,hb,cd0,cd1,cd2,cd3,cd4,cd5,cd6,cd7,cd8,cd9,cd10,cd11,cd12,cd13,cd14,cd15,cd16,cd17,cd18,cd19,cd20,cd21,cd22,cd23,cd24,cd25,cd26,cd27,cd28,cd29,cd30,cd31,cd32,cd33,cd34,cd35,cd36,cd37,cd38,cd39,cd40,cd41,cd42,cd43,cd44,cd45,cd46,cd47,cd48,cd49,cd50,cd51,cd52,wf43,wf45,wf49,wf50⟩ hf hd
        have hf' : b43 = false := hf
        subst hf'
        have d35 : b35 = true := hd ⟨35, .guard⟩ (by simp) rfl
        subst d35
        obtain rfl := cd35.out rfl
        clear hf hd
        try simp only [sI, s0, s1]
        intro K hK
        rw [if_pos (by rfl)]
        go_simp
        have bx : Below w.heap.size w (w.alloc (.cells #[] 27)) := (Below.refl _ _).alloc (Nat.le_refl _) _
        have oe := ownH_empty w w7.drew.heap.size hb.size
        exact hK.out _ _ ⟨b0, b1, b2, b3, b4, b5, b6, b7, b8, b9, b10, b11, b12, b13, b14, b15, b16, b17, b18, b19, b20, b21, b22, b23, b24, b25, b26, b27, b28, b29, b30, b31, b32, b33, b34, true, b36, b37, b38, b39, b40, b41, b42, true, b44, b45, b46, b47, b48, b49, b50, b51, b52, x35, x36, x37, x38, x39, x40, x41, x42, x43, x44, x45, x46, x47, x48, x49, x50, x51, x52, x53, x54, x55, x56, x57, x58, x59, x60, x61, x62, x63, x64, x65, x66, x67, x68, x69, .bool false, x71, x72, x73, x74, x75, x76, x77, (.slice (some ⟨(w.heap.size), 0, none⟩) 0 0), x79, x80, x81, x82, x83, x84, x85, x86, x87, w.heap.size, a80, c80, gl, a85, c85, (by simp only [Act.put, sI, s0, s1]), (by simp only [Act.put, sI, s0, s1]), hb.trans (bx.mono hb.size), cd0, cd1, cd2, cd3, cd4, cd5, cd6, cd7, cd8, cd9, cd10, cd11, cd12, cd13, cd14, cd15, cd16, cd17, cd18, cd19, cd20, cd21, cd22, cd23, cd24, cd25, cd26, cd27, cd28, cd29, cd30, cd31, cd32, cd33, cd34, (fun _ => rfl), cd36, cd37, cd38, cd39, cd40, cd41, cd42, (fun _ => rfl), cd44, cd45, cd46, cd47, cd48, cd49, cd50, cd51, cd52, (fun _ _ => oe), (fun h h2 => (wf45.out h h2).past bx), (fun h h2 => (wf49.out h h2).past bx), (fun h => (wf50.out h).past bx)⟩
      · rintro L a w ⟨b0,b1,b2,b3,b4,b5,b6,b7,b8,b9,b10,b11,b12,b13,b14,b15,b16,b17,b18,b19,b20,b21,b22,b23,b24,b25,b26,b27,b28,b29,b30,b31,b32,b33,b34,b35,b36,b37,b38,b39,b40,b41,b42,b43,b44,b45,b46,b47,b48,b49,b50,b51,b52,x35,x36,x37,x38,x39,x40,x41,x42,x43,x44,x45,x46,x47,x48,x49,x50,x51,x52,x53,x54,x55,x56,x57,x58,x59,x60,x61,x62,x63,x64,x65,x66,x67,x68,x69,x70,x71,x72,x73,x74,x75,x76,x77,x78,x79,x80,x81,x82,x83,x84,x85,x86,x87,ge,a80,c80,gl,a85,c85,rfl,rfl,hb,cd0,cd1,cd2,cd3,cd4,cd5,cd6,cd7,cd8,cd9,cd10,cd11,cd12,cd13,cd14,cd15,cd16,cd17,cd18,cd19,cd20,cd21,cd22,cd23,cd24,cd25,cd26,cd27,cd28,cd29,cd30,cd31,cd32,cd33,cd34,cd35,cd36,cd37,cd38,cd39,cd40,cd41,cd42,cd43,cd44,cd45,cd46,cd47,cd48,cd49,cd50,cd51,cd52,wf43,wf45,wf49,wf50⟩ hf hd
        have hf' : b44 = false := hf
        subst hf'
        have d35 : b35 = true := hd ⟨35, .guard⟩ (by simp) rfl
        subst d35
        obtain rfl := cd35.out rfl
        clear hf hd
        try simp only [sI, s0, s1]
        intro K hK
        rw [if_pos (by rfl)]
        go_simp
        exact hK.out _ _ ⟨b0, b1, b2, b3, b4, b5, b6, b7, b8, b9, b10, b11, b12, b13, b14, b15, b16, b17, b18, b19, b20, b21, b22, b23, b24, b25, b26, b27, b28, b29, b30, b31, b32, b33, b34, true, b36, b37, b38, b39, b40, b41, b42, b43, true, b45, b46, b47, b48, b49, b50, b51, b52, x35, x36, x37, x38, x39, x40, x41, x42, x43, x44, x45, x46, x47, x48, x49, x50, x51, x52, x53, x54, x55, x56, x57, x58, x59, x60, x61, x62, x63, x64, x65, x66, x67, x68, x69, .bool false, x71, x72, x73, x74, x75, x76, x77, x78, (.slice ap m cp), x80, x81, x82, x83, x84, x85, x86, x87, ge, a80, c80, gl, a85, c85, (by simp only [Act.put, sI, s0, s1]), (by simp only [Act.put, sI, s0, s1]), hb, cd0, cd1, cd2, cd3, cd4, cd5, cd6, cd7, cd8, cd9, cd10, cd11, cd12, cd13, cd14, cd15, cd16, cd17, cd18, cd19, cd20, cd21, cd22, cd23, cd24, cd25, cd26, cd27, cd28, cd29, cd30, cd31, cd32, cd33, cd34, (fun _ => rfl), cd36, cd37, cd38, cd39, cd40, cd41, cd42, cd43, (fun _ => rfl), cd45, cd46, cd47, cd48, cd49, cd50, cd51, cd52, wf43, wf45, wf49, wf50⟩
      · rintro L a w ⟨b0,b1,b2,b3,b4,b5,b6,b7,b8,b9,b10,b11,b12,b13,b14,b15,b16,b17,b18,b19,b20,b21,b22,b23,b24,b25,b26,b27,b28,b29,b30,b31,b32,b33,b34,b35,b36,b37,b38,b39,b40,b41,b42,b43,b44,b45,b46,b47,b48,b49,b50,b51,b52,x35,x36,x37,x38,x39,x40,x41,x42,x43,x44,x45,x46,x47,x48,x49,x50,x51,x52,x53,x54,x55,x56,x57,x58,x59,x60,x61,x62,x63,x64,x65,x66,x67,x68,x69,x70,x71,x72,x73,x74,x75,x76,x77,x78,x79,x80,x81,x82,x83,x84,x85,x86,x87,ge,a80,c80,gl,a85,c85,rfl,rfl,hb,cd0,cd1,cd2,cd3,cd4,cd5,cd6,cd7,cd8,cd9,cd10,cd11,cd12,cd13,cd14,cd15,cd16,cd17,cd18,cd19,cd20,cd21,cd22,cd23,cd24,cd25,cd26,cd27,cd28,cd29,cd30,cd31,cd32,cd33,cd34,cd35,cd36,cd37,cd38,cd39,cd40,cd41,cd42,cd43,cd44,cd45,cd46,cd47,cd48,cd49,cd50,cd51,cd52,wf43,wf45,wf49,wf50⟩ hf hd
        have hf' : b45 = false := hf
        subst hf'
        have d43 : b43 = true := hd ⟨43, .data⟩ (by simp) rfl
        subst d43
        have d44 : b44 = true := hd ⟨44, .data⟩ (by simp) rfl
        subst d44
        have d35 : b35 = true := hd ⟨35, .chain⟩ (by simp) rfl
        subst d35
        obtain rfl := cd43.out rfl
        obtain rfl := cd44.out rfl
        obtain rfl := cd35.out rfl
        clear hf hd
        have W43 := wf43.out rfl rfl
        try simp only [sI, s0, s1]
        intro K hK
        rw [if_pos (by rfl)]
        refine wp_append_h0 _ _ rfl w7.drew.heap.size hb.size ge rfl W43 ap m cp p rfl (hP.past hb) (by omega) fun v' w2 o2 bx => ?_
        obtain ⟨a', c', rfl, -, -⟩ := o2.isH
        exact hK.out _ _ ⟨b0, b1, b2, b3, b4, b5, b6, b7, b8, b9, b10, b11, b12, b13, b14, b15, b16, b17, b18, b19, b20, b21, b22, b23, b24, b25, b26, b27, b28, b29, b30, b31, b32, b33, b34, true, b36, b37, b38, b39, b40, b41, b42, true, true, true, b46, b47, b48, b49, b50, b51, b52, x35, x36, x37, x38, x39, x40, x41, x42, x43, x44, x45, x46, x47, x48, x49, x50, x51, x52, x53, x54, x55, x56, x57, x58, x59, x60, x61, x62, x63, x64, x65, x66, x67, x68, x69, .bool false, x71, x72, x73, x74, x75, x76, x77, .slice (some ⟨ge, 0, none⟩) 0 0, .slice ap m cp, (.slice (a') m (c')), x81, x82, x83, x84, x85, x86, x87, ge, a', c', gl, a85, c85, (by simp only [Act.put, sI, s0, s1]), (by simp only [Act.put, sI, s0, s1]), hb.trans (bx.mono hb.size), cd0, cd1, cd2, cd3, cd4, cd5, cd6, cd7, cd8, cd9, cd10, cd11, cd12, cd13, cd14, cd15, cd16, cd17, cd18, cd19, cd20, cd21, cd22, cd23, cd24, cd25, cd26, cd27, cd28, cd29, cd30, cd31, cd32, cd33, cd34, (fun _ => rfl), cd36, cd37, cd38, cd39, cd40, cd41, cd42, (fun _ => rfl), (fun _ => rfl), (fun _ => rfl), cd46, cd47, cd48, cd49, cd50, cd51, cd52, (fun _ h => by cases h), (fun _ _ => o2), (fun h h2 => (wf49.out h h2).past bx), (fun h => (wf50.out h).past bx)⟩
      · rintro L a w ⟨b0,b1,b2,b3,b4,b5,b6,b7,b8,b9,b10,b11,b12,b13,b14,b15,b16,b17,b18,b19,b20,b21,b22,b23,b24,b25,b26,b27,b28,b29,b30,b31,b32,b33,b34,b35,b36,b37,b38,b39,b40,b41,b42,b43,b44,b45,b46,b47,b48,b49,b50,b51,b52,x35,x36,x37,x38,x39,x40,x41,x42,x43,x44,x45,x46,x47,x48,x49,x50,x51,x52,x53,x54,x55,x56,x57,x58,x59,x60,x61,x62,x63,x64,x65,x66,x67,x68,x69,x70,x71,x72,x73,x74,x75,x76,x77,x78,x79,x80,x81,x82,x83,x84,x85,x86,x87,ge,a80,c80,gl,a85,c85,rfl,rfl,hb,cd0,cd1,cd2,cd3,cd4,cd5,cd6,cd7,cd8,cd9,cd10,cd11,cd12,cd13,cd14,cd15,cd16,cd17,cd18,cd19,cd20,cd21,cd22,cd23,cd24,cd25,cd26,cd27,cd28,cd29,cd30,cd31,cd32,cd33,cd34,cd35,cd36,cd37,cd38,cd39,cd40,cd41,cd42,cd43,cd44,cd45,cd46,cd47,cd48,cd49,cd50,cd51,cd52,wf43,wf45,wf49,wf50⟩ hf hd
        have hf' : b46 = false := hf
        subst hf'
        have d35 : b35 = true := hd ⟨35, .guard⟩ (by simp) rfl
        subst d35
        obtain rfl := cd35.out rfl
        clear hf hd
        try simp only [sI, s0, s1]
        intro K hK
        rw [if_pos (by rfl)]
        go_simp
        exact hK.out _ _ ⟨b0, b1, b2, b3, b4, b5, b6, b7, b8, b9, b10, b11, b12, b13, b14, b15, b16, b17, b18, b19, b20, b21, b22, b23, b24, b25, b26, b27, b28, b29, b30, b31, b32, b33, b34, true, b36, b37, b38, b39, b40, b41, b42, b43, b44, b45, true, b47, b48, b49, b50, b51, b52, x35, x36, x37, x38, x39, x40, x41, x42, x43, x44, x45, x46, x47, x48, x49, x50, x51, x52, x53, x54, x55, x56, x57, x58, x59, x60, x61, x62, x63, x64, x65, x66, x67, x68, x69, .bool false, x71, x72, x73, x74, x75, x76, x77, x78, x79, x80, (.slice (some al) n c), x82, x83, x84, x85, x86, x87, ge, a80, c80, gl, a85, c85, (by simp only [Act.put, sI, s0, s1]), (by simp only [Act.put, sI, s0, s1]), hb, cd0, cd1, cd2, cd3, cd4, cd5, cd6, cd7, cd8, cd9, cd10, cd11, cd12, cd13, cd14, cd15, cd16, cd17, cd18, cd19, cd20, cd21, cd22, cd23, cd24, cd25, cd26, cd27, cd28, cd29, cd30, cd31, cd32, cd33, cd34, (fun _ => rfl), cd36, cd37, cd38, cd39, cd40, cd41, cd42, cd43, cd44, cd45, (fun _ => rfl), cd47, cd48, cd49, cd50, cd51, cd52, wf43, wf45, wf49, wf50⟩
      · rintro L a w ⟨b0,b1,b2,b3,b4,b5,b6,b7,b8,b9,b10,b11,b12,b13,b14,b15,b16,b17,b18,b19,b20,b21,b22,b23,b24,b25,b26,b27,b28,b29,b30,b31,b32,b33,b34,b35,b36,b37,b38,b39,b40,b41,b42,b43,b44,b45,b46,b47,b48,b49,b50,b51,b52,x35,x36,x37,x38,x39,x40,x41,x42,x43,x44,x45,x46,x47,x48,x49,x50,x51,x52,x53,x54,x55,x56,x57,x58,x59,x60,x61,x62,x63,x64,x65,x66,x67,x68,x69,x70,x71,x72,x73,x74,x75,x76,x77,x78,x79,x80,x81,x82,x83,x84,x85,x86,x87,ge,a80,c80,gl,a85,c85,rfl,rfl,hb,cd0,cd1,cd2,cd3,cd4,cd5,cd6,cd7,cd8,cd9,cd10,cd11,cd12,cd13,cd14,cd15,cd16,cd17,cd18,cd19,cd20,cd21,cd22,cd23,cd24,cd25,cd26,cd27,cd28,cd29,cd30,cd31,cd32,cd33,cd34,cd35,cd36,cd37,cd38,cd39,cd40,cd41,cd42,cd43,cd44,cd45,cd46,cd47,cd48,cd49,cd50,cd51,cd52,wf43,wf45,wf49,wf50⟩ hf hd
        have hf' : b47 = false := hf
        subst hf'
        have d46 : b46 = true := hd ⟨46, .data⟩ (by simp) rfl
        subst d46
        have d35 : b35 = true := hd ⟨35, .guard⟩ (by simp) rfl
        subst d35
        obtain rfl := cd46.out rfl
        obtain rfl := cd35.out rfl
        clear hf hd
        try simp only [sI, s0, s1]
        intro K hK
        rw [if_pos (by rfl)]
        go_simp
        exact hK.out _ _ ⟨b0, b1, b2, b3, b4, b5, b6, b7, b8, b9, b10, b11, b12, b13, b14, b15, b16, b17, b18, b19, b20, b21, b22, b23, b24, b25, b26, b27, b28, b29, b30, b31, b32, b33, b34, true, b36, b37, b38, b39, b40, b41, b42, b43, b44, b45, true, true, b48, b49, b50, b51, b52, x35, x36, x37, x38, x39, x40, x41, x42, x43, x44, x45, x46, x47, x48, x49, x50, x51, x52, x53, x54, x55, x56, x57, x58, x59, x60, x61, x62, x63, x64, x65, x66, x67, x68, x69, .bool false, x71, x72, x73, x74, x75, x76, x77, x78, x79, x80, .slice (some al) n c, (.pointer (some al)), x83, x84, x85, x86, x87, ge, a80, c80, gl, a85, c85, (by simp only [Act.put, sI, s0, s1]), (by simp only [Act.put, sI, s0, s1]), hb, cd0, cd1, cd2, cd3, cd4, cd5, cd6, cd7, cd8, cd9, cd10, cd11, cd12, cd13, cd14, cd15, cd16, cd17, cd18, cd19, cd20, cd21, cd22, cd23, cd24, cd25, cd26, cd27, cd28, cd29, cd30, cd31, cd32, cd33, cd34, (fun _ => rfl), cd36, cd37, cd38, cd39, cd40, cd41, cd42, cd43, cd44, cd45, (fun _ => rfl), (fun _ => rfl), cd48, cd49, cd50, cd51, cd52, wf43, wf45, wf49, wf50⟩
      · rintro L a w ⟨b0,b1,b2,b3,b4,b5,b6,b7,b8,b9,b10,b11,b12,b13,b14,b15,b16,b17,b18,b19,b20,b21,b22,b23,b24,b25,b26,b27,b28,b29,b30,b31,b32,b33,b34,b35,b36,b37,b38,b39,b40,b41,b42,b43,b44,b45,b46,b47,b48,b49,b50,b51,b52,x35,x36,x37,x38,x39,x40,x41,x42,x43,x44,x45,x46,x47,x48,x49,x50,x51,x52,x53,x54,x55,x56,x57,x58,x59,x60,x61,x62,x63,x64,x65,x66,x67,x68,x69,x70,x71,x72,x73,x74,x75,x76,x77,x78,x79,x80,x81,x82,x83,x84,x85,x86,x87,ge,a80,c80,gl,a85,c85,rfl,rfl,hb,cd0,cd1,cd2,cd3,cd4,cd5,cd6,cd7,cd8,cd9,cd10,cd11,cd12,cd13,cd14,cd15,cd16,cd17,cd18,cd19,cd20,cd21,cd22,cd23,cd24,cd25,cd26,cd27,cd28,cd29,cd30,cd31,cd32,cd33,cd34,cd35,cd36,cd37,cd38,cd39,cd40,cd41,cd42,cd43,cd44,cd45,cd46,cd47,cd48,cd49,cd50,cd51,cd52,wf43,wf45,wf49,wf50⟩ hf hd
        have hf' : b48 = false := hf
        subst hf'
        have d47 : b47 = true := hd ⟨47, .data⟩ (by simp) rfl
        subst d47
        have d35 : b35 = true := hd ⟨35, .guard⟩ (by simp) rfl
        subst d35
        obtain rfl := cd47.out rfl
        obtain rfl := cd35.out rfl
        clear hf hd
        try simp only [sI, s0, s1]
        intro K hK
        rw [if_pos (by rfl)]
        refine wp_load_at 27 _ rfl (al) rfl l0 (t0.past hb) _ _ u24 (hash_size _ h032) ?_
        exact hK.out _ _ ⟨b0, b1, b2, b3, b4, b5, b6, b7, b8, b9, b10, b11, b12, b13, b14, b15, b16, b17, b18, b19, b20, b21, b22, b23, b24, b25, b26, b27, b28, b29, b30, b31, b32, b33, b34, true, b36, b37, b38, b39, b40, b41, b42, b43, b44, b45, b46, true, true, b49, b50, b51, b52, x35, x36, x37, x38, x39, x40, x41, x42, x43, x44, x45, x46, x47, x48, x49, x50, x51, x52, x53, x54, x55, x56, x57, x58, x59, x60, x61, x62, x63, x64, x65, x66, x67, x68, x69, .bool false, x71, x72, x73, x74, x75, x76, x77, x78, x79, x80, x81, .pointer (some al), (.agg (bcs l0).toArray), x84, x85, x86, x87, ge, a80, c80, gl, a85, c85, (by simp only [Act.put, sI, s0, s1]), (by simp only [Act.put, sI, s0, s1]), hb, cd0, cd1, cd2, cd3, cd4, cd5, cd6, cd7, cd8, cd9, cd10, cd11, cd12, cd13, cd14, cd15, cd16, cd17, cd18, cd19, cd20, cd21, cd22, cd23, cd24, cd25, cd26, cd27, cd28, cd29, cd30, cd31, cd32, cd33, cd34, (fun _ => rfl), cd36, cd37, cd38, cd39, cd40, cd41, cd42, cd43, cd44, cd45, cd46, (fun _ => rfl), (fun _ => rfl), cd49, cd50, cd51, cd52, wf43, wf45, wf49, wf50⟩
      · rintro L a w ⟨b0,b1,b2,b3,b4,b5,b6,b7,b8,b9,b10,b11,b12,b13,b14,b15,b16,b17,b18,b19,b20,b21,b22,b23,b24,b25,b26,b27,b28,b29,b30,b31,b32,b33,b34,b35,b36,b37,b38,b39,b40,b41,b42,b43,b44,b45,b46,b47,b48,b49,b50,b51,b52,x35,x36,x37,x38,x39,x40,x41,x42,x43,x44,x45,x46,x47,x48,x49,x50,x51,x52,x53,x54,x55,x56,x57,x58,x59,x60,x61,x62,x63,x64,x65,x66,x67,x68,x69,x70,x71,x72,x73,x74,x75,x76,x77,x78,x79,x80,x81,x82,x83,x84,x85,x86,x87,ge,a80,c80,gl,a85,c85,rfl,rfl,hb,cd0,cd1,cd2,cd3,cd4,cd5,cd6,cd7,cd8,cd9,cd10,cd11,cd12,cd13,cd14,cd15,cd16,cd17,cd18,cd19,cd20,cd21,cd22,cd23,cd24,cd25,cd26,cd27,cd28,cd29,cd30,cd31,cd32,cd33,cd34,cd35,cd36,cd37,cd38,cd39,cd40,cd41,cd42,cd43,cd44,cd45,cd46,cd47,cd48,cd49,cd50,cd51,cd52,wf43,wf45,wf49,wf50⟩ hf hd
        have hf' : b49 = false := hf
        subst hf'
        have d48 : b48 = true := hd ⟨48, .data⟩ (by simp) rfl
        subst d48
        have d35 : b35 = true := hd ⟨35, .guard⟩ (by simp) rfl
        subst d35
        obtain rfl := cd48.out rfl
        obtain rfl := cd35.out rfl
        clear hf hd
        try simp only [sI, s0, s1]
        intro K hK
        rw [if_pos (by rfl)]
        refine wp_buildSlice_hs 1 _ rfl [l0] rfl (by simp [h032]) (by omega) (by omega) (by simp only [List.map_toArray, List.map_cons, List.map_nil]; rfl) fun w2 hc2 i2 bx => ?_
        exact hK.out _ _ ⟨b0, b1, b2, b3, b4, b5, b6, b7, b8, b9, b10, b11, b12, b13, b14, b15, b16, b17, b18, b19, b20, b21, b22, b23, b24, b25, b26, b27, b28, b29, b30, b31, b32, b33, b34, true, b36, b37, b38, b39, b40, b41, b42, b43, b44, b45, b46, b47, true, true, b50, b51, b52, x35, x36, x37, x38, x39, x40, x41, x42, x43, x44, x45, x46, x47, x48, x49, x50, x51, x52, x53, x54, x55, x56, x57, x58, x59, x60, x61, x62, x63, x64, x65, x66, x67, x68, x69, .bool false, x71, x72, x73, x74, x75, x76, x77, x78, x79, x80, x81, x82, .agg (bcs l0).toArray, (.slice (some ⟨(w.heap.size), 0, none⟩) 1 1), x85, x86, x87, ge, a80, c80, w.heap.size, a85, c85, (by simp only [Act.put, sI, s0, s1]), (by simp only [Act.put, sI, s0, s1]), hb.trans (bx.mono hb.size), cd0, cd1, cd2, cd3, cd4, cd5, cd6, cd7, cd8, cd9, cd10, cd11, cd12, cd13, cd14, cd15, cd16, cd17, cd18, cd19, cd20, cd21, cd22, cd23, cd24, cd25, cd26, cd27, cd28, cd29, cd30, cd31, cd32, cd33, cd34, (fun _ => rfl), cd36, cd37, cd38, cd39, cd40, cd41, cd42, cd43, cd44, cd45, cd46, cd47, (fun _ => rfl), (fun _ => rfl), cd50, cd51, cd52, (fun h h2 => (wf43.out h h2).past bx), (fun h h2 => (wf45.out h h2).past bx), (fun _ _ => i2), (fun h => (wf50.out h).past bx)⟩
      · rintro L a w ⟨b0,b1,b2,b3,b4,b5,b6,b7,b8,b9,b10,b11,b12,b13,b14,b15,b16,b17,b18,b19,b20,b21,b22,b23,b24,b25,b26,b27,b28,b29,b30,b31,b32,b33,b34,b35,b36,b37,b38,b39,b40,b41,b42,b43,b44,b45,b46,b47,b48,b49,b50,b51,b52,x35,x36,x37,x38,x39,x40,x41,x42,x43,x44,x45,x46,x47,x48,x49,x50,x51,x52,x53,x54,x55,x56,x57,x58,x59,x60,x61,x62,x63,x64,x65,x66,x67,x68,x69,x70,x71,x72,x73,x74,x75,x76,x77,x78,x79,x80,x81,x82,x83,x84,x85,x86,x87,ge,a80,c80,gl,a85,c85,rfl,rfl,hb,cd0,cd1,cd2,cd3,cd4,cd5,cd6,cd7,cd8,cd9,cd10,cd11,cd12,cd13,cd14,cd15,cd16,cd17,cd18,cd19,cd20,cd21,cd22,cd23,cd24,cd25,cd26,cd27,cd28,cd29,cd30,cd31,cd32,cd33,cd34,cd35,cd36,cd37,cd38,cd39,cd40,cd41,cd42,cd43,cd44,cd45,cd46,cd47,cd48,cd49,cd50,cd51,cd52,wf43,wf45,wf49,wf50⟩ hf hd
        have hf' : b50 = false := hf
        subst hf'
        have d45 : b45 = true := hd ⟨45, .data⟩ (by simp) rfl
        subst d45
        have d49 : b49 = true := hd ⟨49, .data⟩ (by simp) rfl
        subst d49
        have d35 : b35 = true := hd ⟨35, .guard⟩ (by simp) rfl
        subst d35
        obtain rfl := cd45.out rfl
        obtain rfl := cd49.out rfl
        obtain rfl := cd35.out rfl
        clear hf hd
        have W45 := wf45.out rfl rfl
        have W49 := wf49.out rfl rfl
        try simp only [sI, s0, s1]
        intro K hK
        rw [if_pos (by rfl)]
        refine wp_append_hs _ _ rfl w7.drew.heap.size hb.size (.slice a80 m c80) m p rfl W45 ⟨gl, 0, none⟩ 1 1 [l0] rfl W49 (by omega) fun v' w2 o2 gb => ?_
        have hb2 := W45.step hb hb.size (Nat.le_refl _) gb
        obtain ⟨a', c', rfl, i2, -⟩ := o2.isH
        exact hK.out _ _ ⟨b0, b1, b2, b3, b4, b5, b6, b7, b8, b9, b10, b11, b12, b13, b14, b15, b16, b17, b18, b19, b20, b21, b22, b23, b24, b25, b26, b27, b28, b29, b30, b31, b32, b33, b34, true, b36, b37, b38, b39, b40, b41, b42, b43, b44, true, b46, b47, b48, true, true, b51, b52, x35, x36, x37, x38, x39, x40, x41, x42, x43, x44, x45, x46, x47, x48, x49, x50, x51, x52, x53, x54, x55, x56, x57, x58, x59, x60, x61, x62, x63, x64, x65, x66, x67, x68, x69, .bool false, x71, x72, x73, x74, x75, x76, x77, x78, x79, .slice a80 m c80, x81, x82, x83, .slice (some ⟨gl, 0, none⟩) 1 1, (.slice (a') (m + 1) (c')), x86, x87, ge, a80, c80, gl, a', c', (by simp only [Act.put, sI, s0, s1]), (by simp only [Act.put, sI, s0, s1]), hb2, cd0, cd1, cd2, cd3, cd4, cd5, cd6, cd7, cd8, cd9, cd10, cd11, cd12, cd13, cd14, cd15, cd16, cd17, cd18, cd19, cd20, cd21, cd22, cd23, cd24, cd25, cd26, cd27, cd28, cd29, cd30, cd31, cd32, cd33, cd34, (fun _ => rfl), cd36, cd37, cd38, cd39, cd40, cd41, cd42, cd43, cd44, (fun _ => rfl), cd46, cd47, cd48, (fun _ => rfl), (fun _ => rfl), cd51, cd52, (fun _ h => by cases h), (fun _ h => by cases h), (fun _ h => by cases h), (fun _ => i2)⟩
      · rintro L a w ⟨b0,b1,b2,b3,b4,b5,b6,b7,b8,b9,b10,b11,b12,b13,b14,b15,b16,b17,b18,b19,b20,b21,b22,b23,b24,b25,b26,b27,b28,b29,b30,b31,b32,b33,b34,b35,b36,b37,b38,b39,b40,b41,b42,b43,b44,b45,b46,b47,b48,b49,b50,b51,b52,x35,x36,x37,x38,x39,x40,x41,x42,x43,x44,x45,x46,x47,x48,x49,x50,x51,x52,x53,x54,x55,x56,x57,x58,x59,x60,x61,x62,x63,x64,x65,x66,x67,x68,x69,x70,x71,x72,x73,x74,x75,x76,x77,x78,x79,x80,x81,x82,x83,x84,x85,x86,x87,ge,a80,c80,gl,a85,c85,rfl,rfl,hb,cd0,cd1,cd2,cd3,cd4,cd5,cd6,cd7,cd8,cd9,cd10,cd11,cd12,cd13,cd14,cd15,cd16,cd17,cd18,cd19,cd20,cd21,cd22,cd23,cd24,cd25,cd26,cd27,cd28,cd29,cd30,cd31,cd32,cd33,cd34,cd35,cd36,cd37,cd38,cd39,cd40,cd41,cd42,cd43,cd44,cd45,cd46,cd47,cd48,cd49,cd50,cd51,cd52,wf43,wf45,wf49,wf50⟩ hf hd
        have hf' : b51 = false := hf
        subst hf'
        have d36 : b36 = true := hd ⟨36, .data⟩ (by simp) rfl
        subst d36
        have d40 : b40 = true := hd ⟨40, .data⟩ (by simp) rfl
        subst d40
        have d41 : b41 = true := hd ⟨41, .data⟩ (by simp) rfl
        subst d41
        have d42 : b42 = true := hd ⟨42, .data⟩ (by simp) rfl
        subst d42
        have d50 : b50 = true := hd ⟨50, .data⟩ (by simp) rfl
        subst d50
        have d35 : b35 = true := hd ⟨35, .guard⟩ (by simp) rfl
        subst d35
        obtain rfl := cd36.out rfl
        obtain rfl := cd40.out rfl
        obtain rfl := cd41.out rfl
        obtain rfl := cd42.out rfl
        obtain rfl := cd50.out rfl
        obtain rfl := cd35.out rfl
        clear hf hd
        have W50 := wf50.out rfl
        try simp only [sI, s0, s1]
        intro K hK
        rw [if_pos (by rfl)]
        go_simp
        go_at_call 9
        refine (M4 _ _ _ (hC.past hb) W50).mono ?_
        rintro e w2 ⟨rfl, bx⟩
        exact hK.out _ _ ⟨b0, b1, b2, b3, b4, b5, b6, b7, b8, b9, b10, b11, b12, b13, b14, b15, b16, b17, b18, b19, b20, b21, b22, b23, b24, b25, b26, b27, b28, b29, b30, b31, b32, b33, b34, true, true, b37, b38, b39, true, true, true, b43, b44, b45, b46, b47, b48, b49, true, true, b52, x35, x36, x37, x38, x39, x40, x41, x42, x43, x44, x45, x46, x47, x48, x49, x50, x51, x52, x53, x54, x55, x56, x57, x58, x59, x60, x61, x62, x63, x64, x65, x66, x67, x68, x69, .bool false, .agg (bcs r).toArray, x72, x73, x74, .agg (bcs li).toArray, .int .i64 (i : Nat), .int .i64 (n : Nat), x78, x79, x80, x81, x82, x83, x84, .slice a85 (m + 1) c85, (.bool false), x87, ge, a80, c80, gl, a85, c85, (by simp only [Act.put, sI, s0, s1]), (by simp only [Act.put, sI, s0, s1]), hb.trans (bx.mono hb.size), cd0, cd1, cd2, cd3, cd4, cd5, cd6, cd7, cd8, cd9, cd10, cd11, cd12, cd13, cd14, cd15, cd16, cd17, cd18, cd19, cd20, cd21, cd22, cd23, cd24, cd25, cd26, cd27, cd28, cd29, cd30, cd31, cd32, cd33, cd34, (fun _ => rfl), (fun _ => rfl), cd37, cd38, cd39, (fun _ => rfl), (fun _ => rfl), (fun _ => rfl), cd43, cd44, cd45, cd46, cd47, cd48, cd49, (fun _ => rfl), (fun _ => rfl), cd52, (fun h h2 => (wf43.out h h2).past bx), (fun _ h => by cases h), (fun _ h => by cases h), (fun h => (wf50.out h).past bx)⟩
      · rintro L a w ⟨b0,b1,b2,b3,b4,b5,b6,b7,b8,b9,b10,b11,b12,b13,b14,b15,b16,b17,b18,b19,b20,b21,b22,b23,b24,b25,b26,b27,b28,b29,b30,b31,b32,b33,b34,b35,b36,b37,b38,b39,b40,b41,b42,b43,b44,b45,b46,b47,b48,b49,b50,b51,b52,x35,x36,x37,x38,x39,x40,x41,x42,x43,x44,x45,x46,x47,x48,x49,x50,x51,x52,x53,x54,x55,x56,x57,x58,x59,x60,x61,x62,x63,x64,x65,x66,x67,x68,x69,x70,x71,x72,x73,x74,x75,x76,x77,x78,x79,x80,x81,x82,x83,x84,x85,x86,x87,ge,a80,c80,gl,a85,c85,rfl,rfl,hb,cd0,cd1,cd2,cd3,cd4,cd5,cd6,cd7,cd8,cd9,cd10,cd11,cd12,cd13,cd14,cd15,cd16,cd17,cd18,cd19,cd20,cd21,cd22,cd23,cd24,cd25,cd26,cd27,cd28,cd29,cd30,cd31,cd32,cd33,cd34,cd35,cd36,cd37,cd38,cd39,cd40,cd41,cd42,cd43,cd44,cd45,cd46,cd47,cd48,cd49,cd50,cd51,cd52,wf43,wf45,wf49,wf50⟩ hf hd
        have hf' : b52 = false := hf
        subst hf'
        have d35 : b35 = true := hd ⟨35, .data⟩ (by simp) rfl
        subst d35
        have d51 : b51 = true := hd ⟨51, .data⟩ (by simp) rfl
        subst d51
        obtain rfl := cd35.out rfl
        obtain rfl := cd51.out rfl
        clear hf hd
        try simp only [sI, s0, s1]
        intro K hK
        rw [if_pos (by rfl)]
        go_simp
        exact hK.out _ _ ⟨b0, b1, b2, b3, b4, b5, b6, b7, b8, b9, b10, b11, b12, b13, b14, b15, b16, b17, b18, b19, b20, b21, b22, b23, b24, b25, b26, b27, b28, b29, b30, b31, b32, b33, b34, true, b36, b37, b38, b39, b40, b41, b42, b43, b44, b45, b46, b47, b48, b49, b50, true, true, x35, x36, x37, x38, x39, x40, x41, x42, x43, x44, x45, x46, x47, x48, x49, x50, x51, x52, x53, x54, x55, x56, x57, x58, x59, x60, x61, x62, x63, x64, x65, x66, x67, x68, x69, .bool false, x71, x72, x73, x74, x75, x76, x77, x78, x79, x80, x81, x82, x83, x84, x85, .bool false, (.bool false), ge, a80, c80, gl, a85, c85, (by simp only [Act.put, sI, s0, s1]), (by simp only [Act.put, sI, s0, s1]), hb, cd0, cd1, cd2, cd3, cd4, cd5, cd6, cd7, cd8, cd9, cd10, cd11, cd12, cd13, cd14, cd15, cd16, cd17, cd18, cd19, cd20, cd21, cd22, cd23, cd24, cd25, cd26, cd27, cd28, cd29, cd30, cd31, cd32, cd33, cd34, (fun _ => rfl), cd36, cd37, cd38, cd39, cd40, cd41, cd42, cd43, cd44, cd45, cd46, cd47, cd48, cd49, cd50, (fun _ => rfl), (fun _ => rfl), wf43, wf45, wf49, wf50⟩
    · rintro a w ⟨b0,b1,b2,b3,b4,b5,b6,b7,b8,b9,b10,b11,b12,b13,b14,b15,b16,b17,b18,b19,b20,b21,b22,b23,b24,b25,b26,b27,b28,b29,b30,b31,b32,b33,b34,b35,b36,b37,b38,b39,b40,b41,b42,b43,b44,b45,b46,b47,b48,b49,b50,b51,b52,x35,x36,x37,x38,x39,x40,x41,x42,x43,x44,x45,x46,x47,x48,x49,x50,x51,x52,x53,x54,x55,x56,x57,x58,x59,x60,x61,x62,x63,x64,x65,x66,x67,x68,x69,x70,x71,x72,x73,x74,x75,x76,x77,x78,x79,x80,x81,x82,x83,x84,x85,x86,x87,ge,a80,c80,gl,a85,c85,hL,rfl,hb,cd0,cd1,cd2,cd3,cd4,cd5,cd6,cd7,cd8,cd9,cd10,cd11,cd12,cd13,cd14,cd15,cd16,cd17,cd18,cd19,cd20,cd21,cd22,cd23,cd24,cd25,cd26,cd27,cd28,cd29,cd30,cd31,cd32,cd33,cd34,cd35,cd36,cd37,cd38,cd39,cd40,cd41,cd42,cd43,cd44,cd45,cd46,cd47,cd48,cd49,cd50,cd51,cd52,wf43,wf45,wf49,wf50⟩
      have hL' : [true, true, true, true, true, true, true, true, true, true, true, true, true, true, true, true, true, true, true, true, true, true, true, true, true, true, true, true, true, true, true, true, true, true, true, true, true, true, true, true, true, true, true, true, true, true, true, true, true, true, true, true, true] = [b0, b1, b2, b3, b4, b5, b6, b7, b8, b9, b10, b11, b12, b13, b14, b15, b16, b17, b18, b19, b20, b21, b22, b23, b24, b25, b26, b27, b28, b29, b30, b31, b32, b33, b34, b35, b36, b37, b38, b39, b40, b41, b42, b43, b44, b45, b46, b47, b48, b49, b50, b51, b52] := congrArg Array.toList hL
      simp only [List.cons.injEq, and_true] at hL'
      obtain ⟨rfl, rfl, rfl, rfl, rfl, rfl, rfl, rfl, rfl, rfl, rfl, rfl, rfl, rfl, rfl, rfl, rfl, rfl, rfl, rfl, rfl, rfl, rfl, rfl, rfl, rfl, rfl, rfl, rfl, rfl, rfl, rfl, rfl, rfl, rfl, rfl, rfl, rfl, rfl, rfl, rfl, rfl, rfl, rfl, rfl, rfl, rfl, rfl, rfl, rfl, rfl, rfl, rfl⟩ := hL'
      obtain rfl := cd0.out rfl
      obtain rfl := cd1.out rfl
      obtain rfl := cd2.out rfl
      obtain rfl := cd3.out rfl
      obtain rfl := cd4.out rfl
      obtain rfl := cd5.out rfl
      obtain rfl := cd6.out rfl
      obtain rfl := cd7.out rfl
      obtain rfl := cd8.out rfl
      obtain rfl := cd9.out rfl
      obtain rfl := cd10.out rfl
      obtain rfl := cd11.out rfl
      obtain rfl := cd12.out rfl
      obtain rfl := cd13.out rfl
      obtain rfl := cd14.out rfl
      obtain rfl := cd15.out rfl
      obtain rfl := cd16.out rfl
      obtain rfl := cd17.out rfl
      obtain rfl := cd18.out rfl
      obtain rfl := cd19.out rfl
      obtain rfl := cd20.out rfl
      obtain rfl := cd21.out rfl
      obtain rfl := cd22.out rfl
      obtain rfl := cd23.out rfl
      obtain rfl := cd24.out rfl
      obtain rfl := cd25.out rfl
      obtain rfl := cd26.out rfl
      obtain rfl := cd27.out rfl
      obtain rfl := cd28.out rfl
      obtain rfl := cd29.out rfl
      obtain rfl := cd30.out rfl
      obtain rfl := cd31.out rfl
      obtain rfl := cd32.out rfl
      obtain rfl := cd33.out rfl
      obtain rfl := cd34.out rfl
      obtain rfl := cd35.out rfl
      obtain rfl := cd36.out rfl
      obtain rfl := cd37.out rfl
      obtain rfl := cd38.out rfl
      obtain rfl := cd39.out rfl
      obtain rfl := cd40.out rfl
      obtain rfl := cd41.out rfl
      obtain rfl := cd42.out rfl
      obtain rfl := cd43.out rfl
      obtain rfl := cd44.out rfl
      obtain rfl := cd45.out rfl
      obtain rfl := cd46.out rfl
      obtain rfl := cd47.out rfl
      obtain rfl := cd48.out rfl
      obtain rfl := cd49.out rfl
      obtain rfl := cd50.out rfl
      obtain rfl := cd51.out rfl
      obtain rfl := cd52.out rfl
      have W50 := wf50.out rfl
      clear hL
      simp only [sI, s0, s1]
      go_wp2_with fail
      go_meet
      exact ⟨rfl, hb8.trans (hb.mono hb8.size)⟩
  obtain ⟨rfl, b8⟩ := hcut
  clear M1 M2 M3 M4
  replace G7 := G7.past b8
  replace hP7 := hP7.past b8
  replace tI := tI.past b8
  replace tJ := tJ.past b8
  replace hC7 := hC7.past b8
  replace B7 := B7.trans (b8.mono B7.size)
  clear b8 t0
  go_upto_region 10 with fail
  go_cut [127] from 88 to 127 (fun v wx => v = .bool false ∧ Below wc.heap.size wc wx)
  case first =>
    have hg := G7.past (Below.refl _ wc).drew
    have hP := hP7.past (Below.refl _ wc).drew
    replace tI := tI.past (Below.refl _ wc).drew
    replace tJ := tJ.past (Below.refl _ wc).drew
    have hb8 := (Below.refl wc.heap.size wc).drew
    replace hC := hC7.past (Below.refl _ wc).drew
    clear G7 hP7 B7 hC7
    refine region_inv (Holds10 al n c i g r ap m cp p li j lj C1 C2) (by kernel_rfl) (by kernel_rfl) ?_ ?_ ?_
    · exact ⟨false, false, false, false, false, false, false, false, false, false, false, false, false, false, false, false, false, false, false, false, false, false, false, false, false, false, false, false, false, false, false, false, false, false, false, false, false, false, false, false, undef, undef, undef, undef, undef, undef, undef, undef, undef, undef, undef, undef, undef, undef, undef, undef, undef, undef, undef, undef, undef, undef, undef, undef, undef, undef, undef, undef, undef, undef, undef, undef, undef, undef, undef, undef, undef, undef, undef, undef, rfl, (by simp only [Act.put, sI, s0, s1]), Below.refl _ _, (fun h => by cases h), (fun h => by cases h), (fun h => by cases h), (fun h => by cases h), (fun h => by cases h), (fun h => by cases h), (fun h => by cases h), (fun h => by cases h), (fun h => by cases h), (fun h => by cases h), (fun h => by cases h), (fun h => by cases h), (fun h => by cases h), (fun h => by cases h), (fun h => by cases h), (fun h => by cases h), (fun h => by cases h), (fun h => by cases h), (fun h => by cases h), (fun h => by cases h), (fun h => by cases h), (fun h => by cases h), (fun h => by cases h), (fun h => by cases h), (fun h => by cases h), (fun h => by cases h), (fun h => by cases h), (fun h => by cases h), (fun h => by cases h), (fun h => by cases h), (fun h => by cases h), (fun h => by cases h), (fun h => by cases h), (fun h => by cases h), (fun h => by cases h), (fun h => by cases h), (fun h => by cases h), (fun h => by cases h), (fun h => by cases h), (fun h => by cases h)⟩
    · refine ⟨?_, ?_, ?_, ?_, ?_, ?_, ?_, ?_, ?_, ?_, ?_, ?_, ?_, ?_, ?_, ?_, ?_, ?_, ?_, ?_, ?_, ?_, ?_, ?_, ?_, ?_, ?_, ?_, ?_, ?_, ?_, ?_, ?_, ?_, ?_, ?_, ?_, ?_, ?_, ?_, trivial⟩
      · rintro L a w ⟨b0,b1,b2,b3,b4,b5,b6,b7,b8,b9,b10,b11,b12,b13,b14,b15,b16,b17,b18,b19,b20,b21,b22,b23,b24,b25,b26,b27,b28,b29,b30,b31,b32,b33,b34,b35,b36,b37,b38,b39,x88,x89,x90,x91,x92,x93,x94,x95,x96,x97,x98,x99,x100,x101,x102,x103,x104,x105,x106,x107,x108,x109,x110,x111,x112,x113,x114,x115,x116,x117,x118,x119,x120,x121,x122,x123,x124,x125,x126,x127,rfl,rfl,hb,cd0,cd1,cd2,cd3,cd4,cd5,cd6,cd7,cd8,cd9,cd10,cd11,cd12,cd13,cd14,cd15,cd16,cd17,cd18,cd19,cd20,cd21,cd22,cd23,cd24,cd25,cd26,cd27,cd28,cd29,cd30,cd31,cd32,cd33,cd34,cd35,cd36,cd37,cd38,cd39⟩ hf hd
        have hf' : b0 = false := hf
        subst hf'
        clear hf hd
        try simp only [sI, s0, s1]
        intro K hK
        rw [if_pos (by rfl)]
        refine wp_load_at 27 _ rfl ⟨g, 0, none⟩ rfl r (hg.past hb).at_ _ _ u24 (hash_size _ HR) ?_
        exact hK.out _ _ ⟨true, b1, b2, b3, b4, b5, b6, b7, b8, b9, b10, b11, b12, b13, b14, b15, b16, b17, b18, b19, b20, b21, b22, b23, b24, b25, b26, b27, b28, b29, b30, b31, b32, b33, b34, b35, b36, b37, b38, b39, (.agg (bcs r).toArray), x89, x90, x91, x92, x93, x94, x95, x96, x97, x98, x99, x100, x101, x102, x103, x104, x105, x106, x107, x108, x109, x110, x111, x112, x113, x114, x115, x116, x117, x118, x119, x120, x121, x122, x123, x124, x125, x126, x127, (by simp only [Act.put, sI, s0, s1]), (by simp only [Act.put, sI, s0, s1]), hb, (fun _ => rfl), cd1, cd2, cd3, cd4, cd5, cd6, cd7, cd8, cd9, cd10, cd11, cd12, cd13, cd14, cd15, cd16, cd17, cd18, cd19, cd20, cd21, cd22, cd23, cd24, cd25, cd26, cd27, cd28, cd29, cd30, cd31, cd32, cd33, cd34, cd35, cd36, cd37, cd38, cd39⟩
      · rintro L a w ⟨b0,b1,b2,b3,b4,b5,b6,b7,b8,b9,b10,b11,b12,b13,b14,b15,b16,b17,b18,b19,b20,b21,b22,b23,b24,b25,b26,b27,b28,b29,b30,b31,b32,b33,b34,b35,b36,b37,b38,b39,x88,x89,x90,x91,x92,x93,x94,x95,x96,x97,x98,x99,x100,x101,x102,x103,x104,x105,x106,x107,x108,x109,x110,x111,x112,x113,x114,x115,x116,x117,x118,x119,x120,x121,x122,x123,x124,x125,x126,x127,rfl,rfl,hb,cd0,cd1,cd2,cd3,cd4,cd5,cd6,cd7,cd8,cd9,cd10,cd11,cd12,cd13,cd14,cd15,cd16,cd17,cd18,cd19,cd20,cd21,cd22,cd23,cd24,cd25,cd26,cd27,cd28,cd29,cd30,cd31,cd32,cd33,cd34,cd35,cd36,cd37,cd38,cd39⟩ hf hd
        have hf' : b1 = false := hf
        subst hf'
        clear hf hd
        try simp only [sI, s0, s1]
        intro K hK
        rw [if_pos (by rfl)]
        go_simp
        exact hK.out _ _ ⟨b0, true, b2, b3, b4, b5, b6, b7, b8, b9, b10, b11, b12, b13, b14, b15, b16, b17, b18, b19, b20, b21, b22, b23, b24, b25, b26, b27, b28, b29, b30, b31, b32, b33, b34, b35, b36, b37, b38, b39, x88, (.slice (some al) n c), x90, x91, x92, x93, x94, x95, x96, x97, x98, x99, x100, x101, x102, x103, x104, x105, x106, x107, x108, x109, x110, x111, x112, x113, x114, x115, x116, x117, x118, x119, x120, x121, x122, x123, x124, x125, x126, x127, (by simp only [Act.put, sI, s0, s1]), (by simp only [Act.put, sI, s0, s1]), hb, cd0, (fun _ => rfl), cd2, cd3, cd4, cd5, cd6, cd7, cd8, cd9, cd10, cd11, cd12, cd13, cd14, cd15, cd16, cd17, cd18, cd19, cd20, cd21, cd22, cd23, cd24, cd25, cd26, cd27, cd28, cd29, cd30, cd31, cd32, cd33, cd34, cd35, cd36, cd37, cd38, cd39⟩
      · rintro L a w ⟨b0,b1,b2,b3,b4,b5,b6,b7,b8,b9,b10,b11,b12,b13,b14,b15,b16,b17,b18,b19,b20,b21,b22,b23,b24,b25,b26,b27,b28,b29,b30,b31,b32,b33,b34,b35,b36,b37,b38,b39,x88,x89,x90,x91,x92,x93,x94,x95,x96,x97,x98,x99,x100,x101,x102,x103,x104,x105,x106,x107,x108,x109,x110,x111,x112,x113,x114,x115,x116,x117,x118,x119,x120,x121,x122,x123,x124,x125,x126,x127,rfl,rfl,hb,cd0,cd1,cd2,cd3,cd4,cd5,cd6,cd7,cd8,cd9,cd10,cd11,cd12,cd13,cd14,cd15,cd16,cd17,cd18,cd19,cd20,cd21,cd22,cd23,cd24,cd25,cd26,cd27,cd28,cd29,cd30,cd31,cd32,cd33,cd34,cd35,cd36,cd37,cd38,cd39⟩ hf hd
        have hf' : b2 = false := hf
        subst hf'
        clear hf hd
        try simp only [sI, s0, s1]
        intro K hK
        rw [if_pos (by rfl)]
        go_simp
        exact hK.out _ _ ⟨b0, b1, true, b3, b4, b5, b6, b7, b8, b9, b10, b11, b12, b13, b14, b15, b16, b17, b18, b19, b20, b21, b22, b23, b24, b25, b26, b27, b28, b29, b30, b31, b32, b33, b34, b35, b36, b37, b38, b39, x88, x89, (.int .i64 (j : Nat)), x91, x92, x93, x94, x95, x96, x97, x98, x99, x100, x101, x102, x103, x104, x105, x106, x107, x108, x109, x110, x111, x112, x113, x114, x115, x116, x117, x118, x119, x120, x121, x122, x123, x124, x125, x126, x127, (by simp only [Act.put, sI, s0, s1]), (by simp only [Act.put, sI, s0, s1]), hb, cd0, cd1, (fun _ => rfl), cd3, cd4, cd5, cd6, cd7, cd8, cd9, cd10, cd11, cd12, cd13, cd14, cd15, cd16, cd17, cd18, cd19, cd20, cd21, cd22, cd23, cd24, cd25, cd26, cd27, cd28, cd29, cd30, cd31, cd32, cd33, cd34, cd35, cd36, cd37, cd38, cd39⟩
      · rintro L a w ⟨b0,b1,b2,b3,b4,b5,b6,b7,b8,b9,b10,b11,b12,b13,b14,b15,b16,b17,b18,b19,b20,b21,b22,b23,b24,b25,b26,b27,b28,b29,b30,b31,b32,b33,b34,b35,b36,b37,b38,b39,x88,x89,x90,x91,x92,x93,x94,x95,x96,x97,x98,x99,x100,x101,x102,x103,x104,x105,x106,x107,x108,x109,x110,x111,x112,x113,x114,x115,x116,x117,x118,x119,x120,x121,x122,x123,x124,x125,x126,x127,rfl,rfl,hb,cd0,cd1,cd2,cd3,cd4,cd5,cd6,cd7,cd8,cd9,cd10,cd11,cd12,cd13,cd14,cd15,cd16,cd17,cd18,cd19,cd20,cd21,cd22,cd23,cd24,cd25,cd26,cd27,cd28,cd29,cd30,cd31,cd32,cd33,cd34,cd35,cd36,cd37,cd38,cd39⟩ hf hd
        have hf' : b3 = false := hf
        subst hf'
        have d1 : b1 = true := hd ⟨1, .data⟩ (by simp) rfl
        subst d1
        have d2 : b2 = true := hd ⟨2, .data⟩ (by simp) rfl
        subst d2
        obtain rfl := cd1.out rfl
        obtain rfl := cd2.out rfl
        clear hf hd
        try simp only [sI, s0, s1]
        intro K hK
        rw [if_pos (by rfl)]
        go_simp
        exact hK.out _ _ ⟨b0, true, true, true, b4, b5, b6, b7, b8, b9, b10, b11, b12, b13, b14, b15, b16, b17, b18, b19, b20, b21, b22, b23, b24, b25, b26, b27, b28, b29, b30, b31, b32, b33, b34, b35, b36, b37, b38, b39, x88, .slice (some al) n c, .int .i64 (j : Nat), (.pointer (some (al.add (j * 32)))), x92, x93, x94, x95, x96, x97, x98, x99, x100, x101, x102, x103, x104, x105, x106, x107, x108, x109, x110, x111, x112, x113, x114, x115, x116, x117, x118, x119, x120, x121, x122, x123, x124, x125, x126, x127, (by simp only [Act.put, sI, s0, s1]), (by simp only [Act.put, sI, s0, s1]), hb, cd0, (fun _ => rfl), (fun _ => rfl), (fun _ => rfl), cd4, cd5, cd6, cd7, cd8, cd9, cd10, cd11, cd12, cd13, cd14, cd15, cd16, cd17, cd18, cd19, cd20, cd21, cd22, cd23, cd24, cd25, cd26, cd27, cd28, cd29, cd30, cd31, cd32, cd33, cd34, cd35, cd36, cd37, cd38, cd39⟩
      · rintro L a w ⟨b0,b1,b2,b3,b4,b5,b6,b7,b8,b9,b10,b11,b12,b13,b14,b15,b16,b17,b18,b19,b20,b21,b22,b23,b24,b25,b26,b27,b28,b29,b30,b31,b32,b33,b34,b35,b36,b37,b38,b39,x88,x89,x90,x91,x92,x93,x94,x95,x96,x97,x98,x99,x100,x101,x102,x103,x104,x105,x106,x107,x108,x109,x110,x111,x112,x113,x114,x115,x116,x117,x118,x119,x120,x121,x122,x123,x124,x125,x126,x127,rfl,rfl,hb,cd0,cd1,cd2,cd3,cd4,cd5,cd6,cd7,cd8,cd9,cd10,cd11,cd12,cd13,cd14,cd15,cd16,cd17,cd18,cd19,cd20,cd21,cd22,cd23,cd24,cd25,cd26,cd27,cd28,cd29,cd30,cd31,cd32,cd33,cd34,cd35,cd36,cd37,cd38,cd39⟩ hf hd
        have hf' : b4 = false := hf
        subst hf'
        have d3 : b3 = true := hd ⟨3, .data⟩ (by simp) rfl
        subst d3
        obtain rfl := cd3.out rfl
        clear hf hd
        try simp only [sI, s0, s1]
        intro K hK
        rw [if_pos (by rfl)]
        refine wp_load_at 27 _ rfl (al.add (j * 32)) rfl lj (tJ.past hb) _ _ u24 (hash_size _ hJ32) ?_
        exact hK.out _ _ ⟨b0, b1, b2, true, true, b5, b6, b7, b8, b9, b10, b11, b12, b13, b14, b15, b16, b17, b18, b19, b20, b21, b22, b23, b24, b25, b26, b27, b28, b29, b30, b31, b32, b33, b34, b35, b36, b37, b38, b39, x88, x89, x90, .pointer (some (al.add (j * 32))), (.agg (bcs lj).toArray), x93, x94, x95, x96, x97, x98, x99, x100, x101, x102, x103, x104, x105, x106, x107, x108, x109, x110, x111, x112, x113, x114, x115, x116, x117, x118, x119, x120, x121, x122, x123, x124, x125, x126, x127, (by simp only [Act.put, sI, s0, s1]), (by simp only [Act.put, sI, s0, s1]), hb, cd0, cd1, cd2, (fun _ => rfl), (fun _ => rfl), cd5, cd6, cd7, cd8, cd9, cd10, cd11, cd12, cd13, cd14, cd15, cd16, cd17, cd18, cd19, cd20, cd21, cd22, cd23, cd24, cd25, cd26, cd27, cd28, cd29, cd30, cd31, cd32, cd33, cd34, cd35, cd36, cd37, cd38, cd39⟩
      · rintro L a w ⟨b0,b1,b2,b3,b4,b5,b6,b7,b8,b9,b10,b11,b12,b13,b14,b15,b16,b17,b18,b19,b20,b21,b22,b23,b24,b25,b26,b27,b28,b29,b30,b31,b32,b33,b34,b35,b36,b37,b38,b39,x88,x89,x90,x91,x92,x93,x94,x95,x96,x97,x98,x99,x100,x101,x102,x103,x104,x105,x106,x107,x108,x109,x110,x111,x112,x113,x114,x115,x116,x117,x118,x119,x120,x121,x122,x123,x124,x125,x126,x127,rfl,rfl,hb,cd0,cd1,cd2,cd3,cd4,cd5,cd6,cd7,cd8,cd9,cd10,cd11,cd12,cd13,cd14,cd15,cd16,cd17,cd18,cd19,cd20,cd21,cd22,cd23,cd24,cd25,cd26,cd27,cd28,cd29,cd30,cd31,cd32,cd33,cd34,cd35,cd36,cd37,cd38,cd39⟩ hf hd
        have hf' : b5 = false := hf
        subst hf'
        clear hf hd
        try simp only [sI, s0, s1]
        intro K hK
        rw [if_pos (by rfl)]
        go_simp
        exact hK.out _ _ ⟨b0, b1, b2, b3, b4, true, b6, b7, b8, b9, b10, b11, b12, b13, b14, b15, b16, b17, b18, b19, b20, b21, b22, b23, b24, b25, b26, b27, b28, b29, b30, b31, b32, b33, b34, b35, b36, b37, b38, b39, x88, x89, x90, x91, x92, (.int .i64 (i : Nat)), x94, x95, x96, x97, x98, x99, x100, x101, x102, x103, x104, x105, x106, x107, x108, x109, x110, x111, x112, x113, x114, x115, x116, x117, x118, x119, x120, x121, x122, x123, x124, x125, x126, x127, (by simp only [Act.put, sI, s0, s1]), (by simp only [Act.put, sI, s0, s1]), hb, cd0, cd1, cd2, cd3, cd4, (fun _ => rfl), cd6, cd7, cd8, cd9, cd10, cd11, cd12, cd13, cd14, cd15, cd16, cd17, cd18, cd19, cd20, cd21, cd22, cd23, cd24, cd25, cd26, cd27, cd28, cd29, cd30, cd31, cd32, cd33, cd34, cd35, cd36, cd37, cd38, cd39⟩
      · rintro L a w ⟨b0,b1,b2,b3,b4,b5,b6,b7,b8,b9,b10,b11,b12,b13,b14,b15,b16,b17,b18,b19,b20,b21,b22,b23,b24,b25,b26,b27,b28,b29,b30,b31,b32,b33,b34,b35,b36,b37,b38,b39,x88,x89,x90,x91,x92,x93,x94,x95,x96,x97,x98,x99,x100,x101,x102,x103,x104,x105,x106,x107,x108,x109,x110,x111,x112,x113,x114,x115,x116,x117,x118,x119,x120,x121,x122,x123,x124,x125,x126,x127,rfl,rfl,hb,cd0,cd1,cd2,cd3,cd4,cd5,cd6,cd7,cd8,cd9,cd10,cd11,cd12,cd13,cd14,cd15,cd16,cd17,cd18,cd19,cd20,cd21,cd22,cd23,cd24,cd25,cd26,cd27,cd28,cd29,cd30,cd31,cd32,cd33,cd34,cd35,cd36,cd37,cd38,cd39⟩ hf hd
        have hf' : b6 = false := hf
        subst hf'
        clear hf hd
        try simp only [sI, s0, s1]
        intro K hK
        rw [if_pos (by rfl)]
        go_simp
        exact hK.out _ _ ⟨b0, b1, b2, b3, b4, b5, true, b7, b8, b9, b10, b11, b12, b13, b14, b15, b16, b17, b18, b19, b20, b21, b22, b23, b24, b25, b26, b27, b28, b29, b30, b31, b32, b33, b34, b35, b36, b37, b38, b39, x88, x89, x90, x91, x92, x93, (.int .i64 (n : Nat)), x95, x96, x97, x98, x99, x100, x101, x102, x103, x104, x105, x106, x107, x108, x109, x110, x111, x112, x113, x114, x115, x116, x117, x118, x119, x120, x121, x122, x123, x124, x125, x126, x127, (by simp only [Act.put, sI, s0, s1]), (by simp only [Act.put, sI, s0, s1]), hb, cd0, cd1, cd2, cd3, cd4, cd5, (fun _ => rfl), cd7, cd8, cd9, cd10, cd11, cd12, cd13, cd14, cd15, cd16, cd17, cd18, cd19, cd20, cd21, cd22, cd23, cd24, cd25, cd26, cd27, cd28, cd29, cd30, cd31, cd32, cd33, cd34, cd35, cd36, cd37, cd38, cd39⟩
      · rintro L a w ⟨b0,b1,b2,b3,b4,b5,b6,b7,b8,b9,b10,b11,b12,b13,b14,b15,b16,b17,b18,b19,b20,b21,b22,b23,b24,b25,b26,b27,b28,b29,b30,b31,b32,b33,b34,b35,b36,b37,b38,b39,x88,x89,x90,x91,x92,x93,x94,x95,x96,x97,x98,x99,x100,x101,x102,x103,x104,x105,x106,x107,x108,x109,x110,x111,x112,x113,x114,x115,x116,x117,x118,x119,x120,x121,x122,x123,x124,x125,x126,x127,rfl,rfl,hb,cd0,cd1,cd2,cd3,cd4,cd5,cd6,cd7,cd8,cd9,cd10,cd11,cd12,cd13,cd14,cd15,cd16,cd17,cd18,cd19,cd20,cd21,cd22,cd23,cd24,cd25,cd26,cd27,cd28,cd29,cd30,cd31,cd32,cd33,cd34,cd35,cd36,cd37,cd38,cd39⟩ hf hd
        have hf' : b7 = false := hf
        subst hf'
        clear hf hd
        try simp only [sI, s0, s1]
        intro K hK
        rw [if_pos (by rfl)]
        go_simp
        exact hK.out _ _ ⟨b0, b1, b2, b3, b4, b5, b6, true, b8, b9, b10, b11, b12, b13, b14, b15, b16, b17, b18, b19, b20, b21, b22, b23, b24, b25, b26, b27, b28, b29, b30, b31, b32, b33, b34, b35, b36, b37, b38, b39, x88, x89, x90, x91, x92, x93, x94, (.slice ap m cp), x96, x97, x98, x99, x100, x101, x102, x103, x104, x105, x106, x107, x108, x109, x110, x111, x112, x113, x114, x115, x116, x117, x118, x119, x120, x121, x122, x123, x124, x125, x126, x127, (by simp only [Act.put, sI, s0, s1]), (by simp only [Act.put, sI, s0, s1]), hb, cd0, cd1, cd2, cd3, cd4, cd5, cd6, (fun _ => rfl), cd8, cd9, cd10, cd11, cd12, cd13, cd14, cd15, cd16, cd17, cd18, cd19, cd20, cd21, cd22, cd23, cd24, cd25, cd26, cd27, cd28, cd29, cd30, cd31, cd32, cd33, cd34, cd35, cd36, cd37, cd38, cd39⟩
      · rintro L a w ⟨b0,b1,b2,b3,b4,b5,b6,b7,b8,b9,b10,b11,b12,b13,b14,b15,b16,b17,b18,b19,b20,b21,b22,b23,b24,b25,b26,b27,b28,b29,b30,b31,b32,b33,b34,b35,b36,b37,b38,b39,x88,x89,x90,x91,x92,x93,x94,x95,x96,x97,x98,x99,x100,x101,x102,x103,x104,x105,x106,x107,x108,x109,x110,x111,x112,x113,x114,x115,x116,x117,x118,x119,x120,x121,x122,x123,x124,x125,x126,x127,rfl,rfl,hb,cd0,cd1,cd2,cd3,cd4,cd5,cd6,cd7,cd8,cd9,cd10,cd11,cd12,cd13,cd14,cd15,cd16,cd17,cd18,cd19,cd20,cd21,cd22,cd23,cd24,cd25,cd26,cd27,cd28,cd29,cd30,cd31,cd32,cd33,cd34,cd35,cd36,cd37,cd38,cd39⟩ hf hd
        have hf' : b8 = false := hf
        subst hf'
        have d0 : b0 = true := hd ⟨0, .data⟩ (by simp) rfl
        subst d0
        have d4 : b4 = true := hd ⟨4, .data⟩ (by simp) rfl
        subst d4
        have d5 : b5 = true := hd ⟨5, .data⟩ (by simp) rfl
        subst d5
        have d6 : b6 = true := hd ⟨6, .data⟩ (by simp) rfl
        subst d6
        have d7 : b7 = true := hd ⟨7, .data⟩ (by simp) rfl
        subst d7
        obtain rfl := cd0.out rfl
        obtain rfl := cd4.out rfl
        obtain rfl := cd5.out rfl
        obtain rfl := cd6.out rfl
        obtain rfl := cd7.out rfl
        clear hf hd
        try simp only [sI, s0, s1]
        intro K hK
        rw [if_pos (by rfl)]
        go_simp
        go_at_call 9
        refine (M5 _ (hC.past hb) (hP.past hb)).mono ?_
        rintro e w2 ⟨rfl, bx⟩
        exact hK.out _ _ ⟨true, b1, b2, b3, true, true, true, true, true, b9, b10, b11, b12, b13, b14, b15, b16, b17, b18, b19, b20, b21, b22, b23, b24, b25, b26, b27, b28, b29, b30, b31, b32, b33, b34, b35, b36, b37, b38, b39, .agg (bcs r).toArray, x89, x90, x91, .agg (bcs lj).toArray, .int .i64 (i : Nat), .int .i64 (n : Nat), .slice ap m cp, (.bool C1), x97, x98, x99, x100, x101, x102, x103, x104, x105, x106, x107, x108, x109, x110, x111, x112, x113, x114, x115, x116, x117, x118, x119, x120, x121, x122, x123, x124, x125, x126, x127, (by simp only [Act.put, sI, s0, s1]), (by simp only [Act.put, sI, s0, s1]), hb.trans (bx.mono hb.size), (fun _ => rfl), cd1, cd2, cd3, (fun _ => rfl), (fun _ => rfl), (fun _ => rfl), (fun _ => rfl), (fun _ => rfl), cd9, cd10, cd11, cd12, cd13, cd14, cd15, cd16, cd17, cd18, cd19, cd20, cd21, cd22, cd23, cd24, cd25, cd26, cd27, cd28, cd29, cd30, cd31, cd32, cd33, cd34, cd35, cd36, cd37, cd38, cd39⟩
      · rintro L a w ⟨b0,b1,b2,b3,b4,b5,b6,b7,b8,b9,b10,b11,b12,b13,b14,b15,b16,b17,b18,b19,b20,b21,b22,b23,b24,b25,b26,b27,b28,b29,b30,b31,b32,b33,b34,b35,b36,b37,b38,b39,x88,x89,x90,x91,x92,x93,x94,x95,x96,x97,x98,x99,x100,x101,x102,x103,x104,x105,x106,x107,x108,x109,x110,x111,x112,x113,x114,x115,x116,x117,x118,x119,x120,x121,x122,x123,x124,x125,x126,x127,rfl,rfl,hb,cd0,cd1,cd2,cd3,cd4,cd5,cd6,cd7,cd8,cd9,cd10,cd11,cd12,cd13,cd14,cd15,cd16,cd17,cd18,cd19,cd20,cd21,cd22,cd23,cd24,cd25,cd26,cd27,cd28,cd29,cd30,cd31,cd32,cd33,cd34,cd35,cd36,cd37,cd38,cd39⟩ hf hd
        have hf' : b9 = false := hf
        subst hf'
        clear hf hd
        try simp only [sI, s0, s1]
        intro K hK
        rw [if_pos (by rfl)]
        refine wp_load_at 27 _ rfl ⟨g, 0, none⟩ rfl r (hg.past hb).at_ _ _ u24 (hash_size _ HR) ?_
        exact hK.out _ _ ⟨b0, b1, b2, b3, b4, b5, b6, b7, b8, true, b10, b11, b12, b13, b14, b15, b16, b17, b18, b19, b20, b21, b22, b23, b24, b25, b26, b27, b28, b29, b30, b31, b32, b33, b34, b35, b36, b37, b38, b39, x88, x89, x90, x91, x92, x93, x94, x95, x96, (.agg (bcs r).toArray), x98, x99, x100, x101, x102, x103, x104, x105, x106, x107, x108, x109, x110, x111, x112, x113, x114, x115, x116, x117, x118, x119, x120, x121, x122, x123, x124, x125, x126, x127, (by simp only [Act.put, sI, s0, s1]), (by simp only [Act.put, sI, s0, s1]), hb, cd0, cd1, cd2, cd3, cd4, cd5, cd6, cd7, cd8, (fun _ => rfl), cd10, cd11, cd12, cd13, cd14, cd15, cd16, cd17, cd18, cd19, cd20, cd21, cd22, cd23, cd24, cd25, cd26, cd27, cd28, cd29, cd30, cd31, cd32, cd33, cd34, cd35, cd36, cd37, cd38, cd39⟩
      · rintro L a w ⟨b0,b1,b2,b3,b4,b5,b6,b7,b8,b9,b10,b11,b12,b13,b14,b15,b16,b17,b18,b19,b20,b21,b22,b23,b24,b25,b26,b27,b28,b29,b30,b31,b32,b33,b34,b35,b36,b37,b38,b39,x88,x89,x90,x91,x92,x93,x94,x95,x96,x97,x98,x99,x100,x101,x102,x103,x104,x105,x106,x107,x108,x109,x110,x111,x112,x113,x114,x115,x116,x117,x118,x119,x120,x121,x122,x123,x124,x125,x126,x127,rfl,rfl,hb,cd0,cd1,cd2,cd3,cd4,cd5,cd6,cd7,cd8,cd9,cd10,cd11,cd12,cd13,cd14,cd15,cd16,cd17,cd18,cd19,cd20,cd21,cd22,cd23,cd24,cd25,cd26,cd27,cd28,cd29,cd30,cd31,cd32,cd33,cd34,cd35,cd36,cd37,cd38,cd39⟩ hf hd
        have hf' : b10 = false := hf
        subst hf'
        clear hf hd
        try simp only [sI, s0, s1]
        intro K hK
        rw [if_pos (by rfl)]
        go_simp
        exact hK.out _ _ ⟨b0, b1, b2, b3, b4, b5, b6, b7, b8, b9, true, b11, b12, b13, b14, b15, b16, b17, b18, b19, b20, b21, b22, b23, b24, b25, b26, b27, b28, b29, b30, b31, b32, b33, b34, b35, b36, b37, b38, b39, x88, x89, x90, x91, x92, x93, x94, x95, x96, x97, (.slice (some al) n c), x99, x100, x101, x102, x103, x104, x105, x106, x107, x108, x109, x110, x111, x112, x113, x114, x115, x116, x117, x118, x119, x120, x121, x122, x123, x124, x125, x126, x127, (by simp only [Act.put, sI, s0, s1]), (by simp only [Act.put, sI, s0, s1]), hb, cd0, cd1, cd2, cd3, cd4, cd5, cd6, cd7, cd8, cd9, (fun _ => rfl), cd11, cd12, cd13, cd14, cd15, cd16, cd17, cd18, cd19, cd20, cd21, cd22, cd23, cd24, cd25, cd26, cd27, cd28, cd29, cd30, cd31, cd32, cd33, cd34, cd35, cd36, cd37, cd38, cd39⟩
      · rintro L a w ⟨b0,b1,b2,b3,b4,b5,b6,b7,b8,b9,b10,b11,b12,b13,b14,b15,b16,b17,b18,b19,b20,b21,b22,b23,b24,b25,b26,b27,b28,b29,b30,b31,b32,b33,b34,b35,b36,b37,b38,b39,x88,x89,x90,x91,x92,x93,x94,x95,x96,x97,x98,x99,x100,x101,x102,x103,x104,x105,x106,x107,x108,x109,x110,x111,x112,x113,x114,x115,x116,x117,x118,x119,x120,x121,x122,x123,x124,x125,x126,x127,rfl,rfl,hb,cd0,cd1,cd2,cd3,cd4,cd5,cd6,cd7,cd8,cd9,cd10,cd11,cd12,cd13,cd14,cd15,cd16,cd17,cd18,cd19,cd20,cd21,cd22,cd23,cd24,cd25,cd26,cd27,cd28,cd29,cd30,cd31,cd32,cd33,cd34,cd35,cd36,cd37,cd38,cd39⟩ hf hd
        have hf' : b11 = false := hf
        subst hf'
        clear hf hd
        try simp only [sI, s0, s1]
        intro K hK
        rw [if_pos (by rfl)]
        go_simp
        exact hK.out _ _ ⟨b0, b1, b2, b3, b4, b5, b6, b7, b8, b9, b10, true, b12, b13, b14, b15, b16, b17, b18, b19, b20, b21, b22, b23, b24, b25, b26, b27, b28, b29, b30, b31, b32, b33, b34, b35, b36, b37, b38, b39, x88, x89, x90, x91, x92, x93, x94, x95, x96, x97, x98, (.int .i64 (j : Nat)), x100, x101, x102, x103, x104, x105, x106, x107, x108, x109, x110, x111, x112, x113, x114, x115, x116, x117, x118, x119, x120, x121, x122, x123, x124, x125, x126, x127, (by simp only [Act.put, sI, s0, s1]), (by simp only [Act.put, sI, s0, s1]), hb, cd0, cd1, cd2, cd3, cd4, cd5, cd6, cd7, cd8, cd9, cd10, (fun _ => rfl), cd12, cd13, cd14, cd15, cd16, cd17, cd18, cd19, cd20, cd21, cd22, cd23, cd24, cd25, cd26, cd27, cd28, cd29, cd30, cd31, cd32, cd33, cd34, cd35, cd36, cd37, cd38, cd39⟩
      · rintro L a w ⟨b0,b1,b2,b3,b4,b5,b6,b7,b8,b9,b10,b11,b12,b13,b14,b15,b16,b17,b18,b19,b20,b21,b22,b23,b24,b25,b26,b27,b28,b29,b30,b31,b32,b33,b34,b35,b36,b37,b38,b39,x88,x89,x90,x91,x92,x93,x94,x95,x96,x97,x98,x99,x100,x101,x102,x103,x104,x105,x106,x107,x108,x109,x110,x111,x112,x113,x114,x115,x116,x117,x118,x119,x120,x121,x122,x123,x124,x125,x126,x127,rfl,rfl,hb,cd0,cd1,cd2,cd3,cd4,cd5,cd6,cd7,cd8,cd9,cd10,cd11,cd12,cd13,cd14,cd15,cd16,cd17,cd18,cd19,cd20,cd21,cd22,cd23,cd24,cd25,cd26,cd27,cd28,cd29,cd30,cd31,cd32,cd33,cd34,cd35,cd36,cd37,cd38,cd39⟩ hf hd
        have hf' : b12 = false := hf
        subst hf'
        have d10 : b10 = true := hd ⟨10, .data⟩ (by simp) rfl
        subst d10
        have d11 : b11 = true := hd ⟨11, .data⟩ (by simp) rfl
        subst d11
        obtain rfl := cd10.out rfl
        obtain rfl := cd11.out rfl
        clear hf hd
        try simp only [sI, s0, s1]
        intro K hK
        rw [if_pos (by rfl)]
        go_simp
        exact hK.out _ _ ⟨b0, b1, b2, b3, b4, b5, b6, b7, b8, b9, true, true, true, b13, b14, b15, b16, b17, b18, b19, b20, b21, b22, b23, b24, b25, b26, b27, b28, b29, b30, b31, b32, b33, b34, b35, b36, b37, b38, b39, x88, x89, x90, x91, x92, x93, x94, x95, x96, x97, .slice (some al) n c, .int .i64 (j : Nat), (.pointer (some (al.add (j * 32)))), x101, x102, x103, x104, x105, x106, x107, x108, x109, x110, x111, x112, x113, x114, x115, x116, x117, x118, x119, x120, x121, x122, x123, x124, x125, x126, x127, (by simp only [Act.put, sI, s0, s1]), (by simp only [Act.put, sI, s0, s1]), hb, cd0, cd1, cd2, cd3, cd4, cd5, cd6, cd7, cd8, cd9, (fun _ => rfl), (fun _ => rfl), (fun _ => rfl), cd13, cd14, cd15, cd16, cd17, cd18, cd19, cd20, cd21, cd22, cd23, cd24, cd25, cd26, cd27, cd28, cd29, cd30, cd31, cd32, cd33, cd34, cd35, cd36, cd37, cd38, cd39⟩
      · rintro L a w ⟨b0,b1,b2,b3,b4,b5,b6,b7,b8,b9,b10,b11,b12,b13,b14,b15,b16,b17,b18,b19,b20,b21,b22,b23,b24,b25,b26,b27,b28,b29,b30,b31,b32,b33,b34,b35,b36,b37,b38,b39,x88,x89,x90,x91,x92,x93,x94,x95,x96,x97,x98,x99,x100,x101,x102,x103,x104,x105,x106,x107,x108,x109,x110,x111,x112,x113,x114,x115,x116,x117,x118,x119,x120,x121,x122,x123,x124,x125,x126,x127,rfl,rfl,hb,cd0,cd1,cd2,cd3,cd4,cd5,cd6,cd7,cd8,cd9,cd10,cd11,cd12,cd13,cd14,cd15,cd16,cd17,cd18,cd19,cd20,cd21,cd22,cd23,cd24,cd25,cd26,cd27,cd28,cd29,cd30,cd31,cd32,cd33,cd34,cd35,cd36,cd37,cd38,cd39⟩ hf hd
        have hf' : b13 = false := hf
        subst hf'
        have d12 : b12 = true := hd ⟨12, .data⟩ (by simp) rfl
        subst d12
        obtain rfl := cd12.out rfl
        clear hf hd
        try simp only [sI, s0, s1]
        intro K hK
        rw [if_pos (by rfl)]
        refine wp_load_at 27 _ rfl (al.add (j * 32)) rfl lj (tJ.past hb) _ _ u24 (hash_size _ hJ32) ?_
        exact hK.out _ _ ⟨b0, b1, b2, b3, b4, b5, b6, b7, b8, b9, b10, b11, true, true, b14, b15, b16, b17, b18, b19, b20, b21, b22, b23, b24, b25, b26, b27, b28, b29, b30, b31, b32, b33, b34, b35, b36, b37, b38, b39, x88, x89, x90, x91, x92, x93, x94, x95, x96, x97, x98, x99, .pointer (some (al.add (j * 32))), (.agg (bcs lj).toArray), x102, x103, x104, x105, x106, x107, x108, x109, x110, x111, x112, x113, x114, x115, x116, x117, x118, x119, x120, x121, x122, x123, x124, x125, x126, x127, (by simp only [Act.put, sI, s0, s1]), (by simp only [Act.put, sI, s0, s1]), hb, cd0, cd1, cd2, cd3, cd4, cd5, cd6, cd7, cd8, cd9, cd10, cd11, (fun _ => rfl), (fun _ => rfl), cd14, cd15, cd16, cd17, cd18, cd19, cd20, cd21, cd22, cd23, cd24, cd25, cd26, cd27, cd28, cd29, cd30, cd31, cd32, cd33, cd34, cd35, cd36, cd37, cd38, cd39⟩
      · rintro L a w ⟨b0,b1,b2,b3,b4,b5,b6,b7,b8,b9,b10,b11,b12,b13,b14,b15,b16,b17,b18,b19,b20,b21,b22,b23,b24,b25,b26,b27,b28,b29,b30,b31,b32,b33,b34,b35,b36,b37,b38,b39,x88,x89,x90,x91,x92,x93,x94,x95,x96,x97,x98,x99,x100,x101,x102,x103,x104,x105,x106,x107,x108,x109,x110,x111,x112,x113,x114,x115,x116,x117,x118,x119,x120,x121,x122,x123,x124,x125,x126,x127,rfl,rfl,hb,cd0,cd1,cd2,cd3,cd4,cd5,cd6,cd7,cd8,cd9,cd10,cd11,cd12,cd13,cd14,cd15,cd16,cd17,cd18,cd19,cd20,cd21,cd22,cd23,cd24,cd25,cd26,cd27,cd28,cd29,cd30,cd31,cd32,cd33,cd34,cd35,cd36,cd37,cd38,cd39⟩ hf hd
        have hf' : b14 = false := hf
        subst hf'
        clear hf hd
        try simp only [sI, s0, s1]
        intro K hK
        rw [if_pos (by rfl)]
        go_simp
        exact hK.out _ _ ⟨b0, b1, b2, b3, b4, b5, b6, b7, b8, b9, b10, b11, b12, b13, true, b15, b16, b17, b18, b19, b20, b21, b22, b23, b24, b25, b26, b27, b28, b29, b30, b31, b32, b33, b34, b35, b36, b37, b38, b39, x88, x89, x90, x91, x92, x93, x94, x95, x96, x97, x98, x99, x100, x101, (.int .i64 (i : Nat)), x103, x104, x105, x106, x107, x108, x109, x110, x111, x112, x113, x114, x115, x116, x117, x118, x119, x120, x121, x122, x123, x124, x125, x126, x127, (by simp only [Act.put, sI, s0, s1]), (by simp only [Act.put, sI, s0, s1]), hb, cd0, cd1, cd2, cd3, cd4, cd5, cd6, cd7, cd8, cd9, cd10, cd11, cd12, cd13, (fun _ => rfl), cd15, cd16, cd17, cd18, cd19, cd20, cd21, cd22, cd23, cd24, cd25, cd26, cd27, cd28, cd29, cd30, cd31, cd32, cd33, cd34, cd35, cd36, cd37, cd38, cd39⟩
      · rintro L a w ⟨b0,b1,b2,b3,b4,b5,b6,b7,b8,b9,b10,b11,b12,b13,b14,b15,b16,b17,b18,b19,b20,b21,b22,b23,b24,b25,b26,b27,b28,b29,b30,b31,b32,b33,b34,b35,b36,b37,b38,b39,x88,x89,x90,x91,x92,x93,x94,x95,x96,x97,x98,x99,x100,x101,x102,x103,x104,x105,x106,x107,x108,x109,x110,x111,x112,x113,x114,x115,x116,x117,x118,x119,x120,x121,x122,x123,x124,x125,x126,x127,rfl,rfl,hb,cd0,cd1,cd2,cd3,cd4,cd5,cd6,cd7,cd8,cd9,cd10,cd11,cd12,cd13,cd14,cd15,cd16,cd17,cd18,cd19,cd20,cd21,cd22,cd23,cd24,cd25,cd26,cd27,cd28,cd29,cd30,cd31,cd32,cd33,cd34,cd35,cd36,cd37,cd38,cd39⟩ hf hd
        have hf' : b15 = false := hf
        subst hf'
        clear hf hd
        try simp only [sI, s0, s1]
        intro K hK
        rw [if_pos (by rfl)]
        go_simp
        exact hK.out _ _ ⟨b0, b1, b2, b3, b4, b5, b6, b7, b8, b9, b10, b11, b12, b13, b14, true, b16, b17, b18, b19, b20, b21, b22, b23, b24, b25, b26, b27, b28, b29, b30, b31, b32, b33, b34, b35, b36, b37, b38, b39, x88, x89, x90, x91, x92, x93, x94, x95, x96, x97, x98, x99, x100, x101, x102, (.int .i64 (n : Nat)), x104, x105, x106, x107, x108, x109, x110, x111, x112, x113, x114, x115, x116, x117, x118, x119, x120, x121, x122, x123, x124, x125, x126, x127, (by simp only [Act.put, sI, s0, s1]), (by simp only [Act.put, sI, s0, s1]), hb, cd0, cd1, cd2, cd3, cd4, cd5, cd6, cd7, cd8, cd9, cd10, cd11, cd12, cd13, cd14, (fun _ => rfl), cd16, cd17, cd18, cd19, cd20, cd21, cd22, cd23, cd24, cd25, cd26, cd27, cd28, cd29, cd30, cd31, cd32, cd33, cd34, cd35, cd36, cd37, cd38, cd39⟩
      · rintro L a w ⟨b0,b1,b2,b3,b4,b5,b6,b7,b8,b9,b10,b11,b12,b13,b14,b15,b16,b17,b18,b19,b20,b21,b22,b23,b24,b25,b26,b27,b28,b29,b30,b31,b32,b33,b34,b35,b36,b37,b38,b39,x88,x89,x90,x91,x92,x93,x94,x95,x96,x97,x98,x99,x100,x101,x102,x103,x104,x105,x106,x107,x108,x109,x110,x111,x112,x113,x114,x115,x116,x117,x118,x119,x120,x121,x122,x123,x124,x125,x126,x127,rfl,rfl,hb,cd0,cd1,cd2,cd3,cd4,cd5,cd6,cd7,cd8,cd9,cd10,cd11,cd12,cd13,cd14,cd15,cd16,cd17,cd18,cd19,cd20,cd21,cd22,cd23,cd24,cd25,cd26,cd27,cd28,cd29,cd30,cd31,cd32,cd33,cd34,cd35,cd36,cd37,cd38,cd39⟩ hf hd
        have hf' : b16 = false := hf
        subst hf'
        clear hf hd
        try simp only [sI, s0, s1]
        intro K hK
        rw [if_pos (by rfl)]
        go_simp
        exact hK.out _ _ ⟨b0, b1, b2, b3, b4, b5, b6, b7, b8, b9, b10, b11, b12, b13, b14, b15, true, b17, b18, b19, b20, b21, b22, b23, b24, b25, b26, b27, b28, b29, b30, b31, b32, b33, b34, b35, b36, b37, b38, b39, x88, x89, x90, x91, x92, x93, x94, x95, x96, x97, x98, x99, x100, x101, x102, x103, (.slice ap m cp), x105, x106, x107, x108, x109, x110, x111, x112, x113, x114, x115, x116, x117, x118, x119, x120, x121, x122, x123, x124, x125, x126, x127, (by simp only [Act.put, sI, s0, s1]), (by simp only [Act.put, sI, s0, s1]), hb, cd0, cd1, cd2, cd3, cd4, cd5, cd6, cd7, cd8, cd9, cd10, cd11, cd12, cd13, cd14, cd15, (fun _ => rfl), cd17, cd18, cd19, cd20, cd21, cd22, cd23, cd24, cd25, cd26, cd27, cd28, cd29, cd30, cd31, cd32, cd33, cd34, cd35, cd36, cd37, cd38, cd39⟩
      · rintro L a w ⟨b0,b1,b2,b3,b4,b5,b6,b7,b8,b9,b10,b11,b12,b13,b14,b15,b16,b17,b18,b19,b20,b21,b22,b23,b24,b25,b26,b27,b28,b29,b30,b31,b32,b33,b34,b35,b36,b37,b38,b39,x88,x89,x90,x91,x92,x93,x94,x95,x96,x97,x98,x99,x100,x101,x102,x103,x104,x105,x106,x107,x108,x109,x110,x111,x112,x113,x114,x115,x116,x117,x118,x119,x120,x121,x122,x123,x124,x125,x126,x127,rfl,rfl,hb,cd0,cd1,cd2,cd3,cd4,cd5,cd6,cd7,cd8,cd9,cd10,cd11,cd12,cd13,cd14,cd15,cd16,cd17,cd18,cd19,cd20,cd21,cd22,cd23,cd24,cd25,cd26,cd27,cd28,cd29,cd30,cd31,cd32,cd33,cd34,cd35,cd36,cd37,cd38,cd39⟩ hf hd
        have hf' : b17 = false := hf
        subst hf'
        have d9 : b9 = true := hd ⟨9, .data⟩ (by simp) rfl
        subst d9
        have d13 : b13 = true := hd ⟨13, .data⟩ (by simp) rfl
        subst d13
        have d14 : b14 = true := hd ⟨14, .data⟩ (by simp) rfl
        subst d14
        have d15 : b15 = true := hd ⟨15, .data⟩ (by simp) rfl
        subst d15
        have d16 : b16 = true := hd ⟨16, .data⟩ (by simp) rfl
        subst d16
        have d8 : b8 = true := hd ⟨8, .chain⟩ (by simp) rfl
        subst d8
        obtain rfl := cd9.out rfl
        obtain rfl := cd13.out rfl
        obtain rfl := cd14.out rfl
        obtain rfl := cd15.out rfl
        obtain rfl := cd16.out rfl
        obtain rfl := cd8.out rfl
        clear hf hd
        try simp only [sI, s0, s1]
        intro K hK
        rw [if_pos (by rfl)]
        go_simp
        go_at_call 10
        refine (R5 _ (hP.past hb)).mono ?_
        rintro e w2 ⟨rfl, bx⟩
        exact hK.out _ _ ⟨b0, b1, b2, b3, b4, b5, b6, b7, true, true, b10, b11, b12, true, true, true, true, true, b18, b19, b20, b21, b22, b23, b24, b25, b26, b27, b28, b29, b30, b31, b32, b33, b34, b35, b36, b37, b38, b39, x88, x89, x90, x91, x92, x93, x94, x95, .bool C1, .agg (bcs r).toArray, x98, x99, x100, .agg (bcs lj).toArray, .int .i64 (i : Nat), .int .i64 (n : Nat), .slice ap m cp, (.bool C1), x106, x107, x108, x109, x110, x111, x112, x113, x114, x115, x116, x117, x118, x119, x120, x121, x122, x123, x124, x125, x126, x127, (by simp only [Act.put, sI, s0, s1]), (by simp only [Act.put, sI, s0, s1]), hb.trans (bx.mono hb.size), cd0, cd1, cd2, cd3, cd4, cd5, cd6, cd7, (fun _ => rfl), (fun _ => rfl), cd10, cd11, cd12, (fun _ => rfl), (fun _ => rfl), (fun _ => rfl), (fun _ => rfl), (fun _ => rfl), cd18, cd19, cd20, cd21, cd22, cd23, cd24, cd25, cd26, cd27, cd28, cd29, cd30, cd31, cd32, cd33, cd34, cd35, cd36, cd37, cd38, cd39⟩
      · rintro L a w ⟨b0,b1,b2,b3,b4,b5,b6,b7,b8,b9,b10,b11,b12,b13,b14,b15,b16,b17,b18,b19,b20,b21,b22,b23,b24,b25,b26,b27,b28,b29,b30,b31,b32,b33,b34,b35,b36,b37,b38,b39,x88,x89,x90,x91,x92,x93,x94,x95,x96,x97,x98,x99,x100,x101,x102,x103,x104,x105,x106,x107,x108,x109,x110,x111,x112,x113,x114,x115,x116,x117,x118,x119,x120,x121,x122,x123,x124,x125,x126,x127,rfl,rfl,hb,cd0,cd1,cd2,cd3,cd4,cd5,cd6,cd7,cd8,cd9,cd10,cd11,cd12,cd13,cd14,cd15,cd16,cd17,cd18,cd19,cd20,cd21,cd22,cd23,cd24,cd25,cd26,cd27,cd28,cd29,cd30,cd31,cd32,cd33,cd34,cd35,cd36,cd37,cd38,cd39⟩ hf hd
        have hf' : b18 = false := hf
        subst hf'
        have d8 : b8 = true := hd ⟨8, .data⟩ (by simp) rfl
        subst d8
        have d17 : b17 = true := hd ⟨17, .data⟩ (by simp) rfl
        subst d17
        obtain rfl := cd8.out rfl
        obtain rfl := cd17.out rfl
        clear hf hd
        try simp only [sI, s0, s1]
        intro K hK
        rw [if_pos (by rfl)]
        go_simp
        exact hK.out _ _ ⟨b0, b1, b2, b3, b4, b5, b6, b7, true, b9, b10, b11, b12, b13, b14, b15, b16, true, true, b19, b20, b21, b22, b23, b24, b25, b26, b27, b28, b29, b30, b31, b32, b33, b34, b35, b36, b37, b38, b39, x88, x89, x90, x91, x92, x93, x94, x95, .bool C1, x97, x98, x99, x100, x101, x102, x103, x104, .bool C1, (.bool false), x107, x108, x109, x110, x111, x112, x113, x114, x115, x116, x117, x118, x119, x120, x121, x122, x123, x124, x125, x126, x127, (by simp only [Act.put, sI, s0, s1]), (by simp only [Act.put, sI, s0, s1]), hb, cd0, cd1, cd2, cd3, cd4, cd5, cd6, cd7, (fun _ => rfl), cd9, cd10, cd11, cd12, cd13, cd14, cd15, cd16, (fun _ => rfl), (fun _ => rfl), cd19, cd20, cd21, cd22, cd23, cd24, cd25, cd26, cd27, cd28, cd29, cd30, cd31, cd32, cd33, cd34, cd35, cd36, cd37, cd38, cd39⟩
      · rintro L a w ⟨b0,b1,b2,b3,b4,b5,b6,b7,b8,b9,b10,b11,b12,b13,b14,b15,b16,b17,b18,b19,b20,b21,b22,b23,b24,b25,b26,b27,b28,b29,b30,b31,b32,b33,b34,b35,b36,b37,b38,b39,x88,x89,x90,x91,x92,x93,x94,x95,x96,x97,x98,x99,x100,x101,x102,x103,x104,x105,x106,x107,x108,x109,x110,x111,x112,x113,x114,x115,x116,x117,x118,x119,x120,x121,x122,x123,x124,x125,x126,x127,rfl,rfl,hb,cd0,cd1,cd2,cd3,cd4,cd5,cd6,cd7,cd8,cd9,cd10,cd11,cd12,cd13,cd14,cd15,cd16,cd17,cd18,cd19,cd20,cd21,cd22,cd23,cd24,cd25,cd26,cd27,cd28,cd29,cd30,cd31,cd32,cd33,cd34,cd35,cd36,cd37,cd38,cd39⟩ hf hd
        have hf' : b19 = false := hf
        subst hf'
        have d18 : b18 = true := hd ⟨18, .data⟩ (by simp) rfl
        subst d18
        have d17 : b17 = true := hd ⟨17, .chain⟩ (by simp) rfl
        subst d17
        obtain rfl := cd18.out rfl
        obtain rfl := cd17.out rfl
        clear hf hd
        try simp only [sI, s0, s1]
        intro K hK
        rw [if_pos (by rfl)]
        go_simp
        exact hK.out _ _ ⟨b0, b1, b2, b3, b4, b5, b6, b7, b8, b9, b10, b11, b12, b13, b14, b15, b16, true, true, true, b20, b21, b22, b23, b24, b25, b26, b27, b28, b29, b30, b31, b32, b33, b34, b35, b36, b37, b38, b39, x88, x89, x90, x91, x92, x93, x94, x95, x96, x97, x98, x99, x100, x101, x102, x103, x104, .bool C1, .bool false, (.bool false), x108, x109, x110, x111, x112, x113, x114, x115, x116, x117, x118, x119, x120, x121, x122, x123, x124, x125, x126, x127, (by simp only [Act.put, sI, s0, s1]), (by simp only [Act.put, sI, s0, s1]), hb, cd0, cd1, cd2, cd3, cd4, cd5, cd6, cd7, cd8, cd9, cd10, cd11, cd12, cd13, cd14, cd15, cd16, (fun _ => rfl), (fun _ => rfl), (fun _ => rfl), cd20, cd21, cd22, cd23, cd24, cd25, cd26, cd27, cd28, cd29, cd30, cd31, cd32, cd33, cd34, cd35, cd36, cd37, cd38, cd39⟩
      · rintro L a w ⟨b0,b1,b2,b3,b4,b5,b6,b7,b8,b9,b10,b11,b12,b13,b14,b15,b16,b17,b18,b19,b20,b21,b22,b23,b24,b25,b26,b27,b28,b29,b30,b31,b32,b33,b34,b35,b36,b37,b38,b39,x88,x89,x90,x91,x92,x93,x94,x95,x96,x97,x98,x99,x100,x101,x102,x103,x104,x105,x106,x107,x108,x109,x110,x111,x112,x113,x114,x115,x116,x117,x118,x119,x120,x121,x122,x123,x124,x125,x126,x127,rfl,rfl,hb,cd0,cd1,cd2,cd3,cd4,cd5,cd6,cd7,cd8,cd9,cd10,cd11,cd12,cd13,cd14,cd15,cd16,cd17,cd18,cd19,cd20,cd21,cd22,cd23,cd24,cd25,cd26,cd27,cd28,cd29,cd30,cd31,cd32,cd33,cd34,cd35,cd36,cd37,cd38,cd39⟩ hf hd
        have hf' : b20 = false := hf
        subst hf'
        have d19 : b19 = true := hd ⟨19, .guard⟩ (by simp) rfl
        subst d19
        obtain rfl := cd19.out rfl
        clear hf hd
        try simp only [sI, s0, s1]
        intro K hK
        rw [if_pos (by rfl)]
        refine wp_load_at 27 _ rfl ⟨g, 0, none⟩ rfl r (hg.past hb).at_ _ _ u24 (hash_size _ HR) ?_
        exact hK.out _ _ ⟨b0, b1, b2, b3, b4, b5, b6, b7, b8, b9, b10, b11, b12, b13, b14, b15, b16, b17, b18, true, true, b21, b22, b23, b24, b25, b26, b27, b28, b29, b30, b31, b32, b33, b34, b35, b36, b37, b38, b39, x88, x89, x90, x91, x92, x93, x94, x95, x96, x97, x98, x99, x100, x101, x102, x103, x104, x105, x106, .bool false, (.agg (bcs r).toArray), x109, x110, x111, x112, x113, x114, x115, x116, x117, x118, x119, x120, x121, x122, x123, x124, x125, x126, x127, (by simp only [Act.put, sI, s0, s1]), (by simp only [Act.put, sI, s0, s1]), hb, cd0, cd1, cd2, cd3, cd4, cd5, cd6, cd7, cd8, cd9, cd10, cd11, cd12, cd13, cd14, cd15, cd16, cd17, cd18, (fun _ => rfl), (fun _ => rfl), cd21, cd22, cd23, cd24, cd25, cd26, cd27, cd28, cd29, cd30, cd31, cd32, cd33, cd34, cd35, cd36, cd37, cd38, cd39⟩
      · rintro L a w ⟨b0,b1,b2,b3,b4,b5,b6,b7,b8,b9,b10,b11,b12,b13,b14,b15,b16,b17,b18,b19,b20,b21,b22,b23,b24,b25,b26,b27,b28,b29,b30,b31,b32,b33,b34,b35,b36,b37,b38,b39,x88,x89,x90,x91,x92,x93,x94,x95,x96,x97,x98,x99,x100,x101,x102,x103,x104,x105,x106,x107,x108,x109,x110,x111,x112,x113,x114,x115,x116,x117,x118,x119,x120,x121,x122,x123,x124,x125,x126,x127,rfl,rfl,hb,cd0,cd1,cd2,cd3,cd4,cd5,cd6,cd7,cd8,cd9,cd10,cd11,cd12,cd13,cd14,cd15,cd16,cd17,cd18,cd19,cd20,cd21,cd22,cd23,cd24,cd25,cd26,cd27,cd28,cd29,cd30,cd31,cd32,cd33,cd34,cd35,cd36,cd37,cd38,cd39⟩ hf hd
        have hf' : b21 = false := hf
        subst hf'
        have d19 : b19 = true := hd ⟨19, .guard⟩ (by simp) rfl
        subst d19
        obtain rfl := cd19.out rfl
        clear hf hd
        try simp only [sI, s0, s1]
        intro K hK
        rw [if_pos (by rfl)]
        go_simp
        exact hK.out _ _ ⟨b0, b1, b2, b3, b4, b5, b6, b7, b8, b9, b10, b11, b12, b13, b14, b15, b16, b17, b18, true, b20, true, b22, b23, b24, b25, b26, b27, b28, b29, b30, b31, b32, b33, b34, b35, b36, b37, b38, b39, x88, x89, x90, x91, x92, x93, x94, x95, x96, x97, x98, x99, x100, x101, x102, x103, x104, x105, x106, .bool false, x108, (.slice (some al) n c), x110, x111, x112, x113, x114, x115, x116, x117, x118, x119, x120, x121, x122, x123, x124, x125, x126, x127, (by simp only [Act.put, sI, s0, s1]), (by simp only [Act.put, sI, s0, s1]), hb, cd0, cd1, cd2, cd3, cd4, cd5, cd6, cd7, cd8, cd9, cd10, cd11, cd12, cd13, cd14, cd15, cd16, cd17, cd18, (fun _ => rfl), cd20, (fun _ => rfl), cd22, cd23, cd24, cd25, cd26, cd27, cd28, cd29, cd30, cd31, cd32, cd33, cd34, cd35, cd36, cd37, cd38, cd39⟩
      · rintro L a w ⟨b0,b1,b2,b3,b4,b5,b6,b7,b8,b9,b10,b11,b12,b13,b14,b15,b16,b17,b18,b19,b20,b21,b22,b23,b24,b25,b26,b27,b28,b29,b30,b31,b32,b33,b34,b35,b36,b37,b38,b39,x88,x89,x90,x91,x92,x93,x94,x95,x96,x97,x98,x99,x100,x101,x102,x103,x104,x105,x106,x107,x108,x109,x110,x111,x112,x113,x114,x115,x116,x117,x118,x119,x120,x121,x122,x123,x124,x125,x126,x127,rfl,rfl,hb,cd0,cd1,cd2,cd3,cd4,cd5,cd6,cd7,cd8,cd9,cd10,cd11,cd12,cd13,cd14,cd15,cd16,cd17,cd18,cd19,cd20,cd21,cd22,cd23,cd24,cd25,cd26,cd27,cd28,cd29,cd30,cd31,cd32,cd33,cd34,cd35,cd36,cd37,cd38,cd39⟩ hf hd
        have hf' : b22 = false := hf
        subst hf'
        have d19 : b19 = true := hd ⟨19, .guard⟩ (by simp) rfl
        subst d19
        obtain rfl := cd19.out rfl
        clear hf hd
        try simp only [sI, s0, s1]
        intro K hK
        rw [if_pos (by rfl)]
        go_simp
        exact hK.out _ _ ⟨b0, b1, b2, b3, b4, b5, b6, b7, b8, b9, b10, b11, b12, b13, b14, b15, b16, b17, b18, true, b20, b21, true, b23, b24, b25, b26, b27, b28, b29, b30, b31, b32, b33, b34, b35, b36, b37, b38, b39, x88, x89, x90, x91, x92, x93, x94, x95, x96, x97, x98, x99, x100, x101, x102, x103, x104, x105, x106, .bool false, x108, x109, (.int .i64 (i : Nat)), x111, x112, x113, x114, x115, x116, x117, x118, x119, x120, x121, x122, x123, x124, x125, x126, x127, (by simp only [Act.put, sI, s0, s1]), (by simp only [Act.put, sI, s0, s1]), hb, cd0, cd1, cd2, cd3, cd4, cd5, cd6, cd7, cd8, cd9, cd10, cd11, cd12, cd13, cd14, cd15, cd16, cd17, cd18, (fun _ => rfl), cd20, cd21, (fun _ => rfl), cd23, cd24, cd25, cd26, cd27, cd28, cd29, cd30, cd31, cd32, cd33, cd34, cd35, cd36, cd37, cd38, cd39⟩
      · rintro L a w ⟨b0,b1,b2,b3,b4,b5,b6,b7,b8,b9,b10,b11,b12,b13,b14,b15,b16,b17,b18,b19,b20,b21,b22,b23,b24,b25,b26,b27,b28,b29,b30,b31,b32,b33,b34,b35,b36,b37,b38,b39,x88,x89,x90,x91,x92,x93,x94,x95,x96,x97,x98,x99,x100,x101,x102,x103,x104,x105,x106,x107,x108,x109,x110,x111,x112,x113,x114,x115,x116,x117,x118,x119,x120,x121,x122,x123,x124,x125,x126,x127,rfl,rfl,hb,cd0,cd1,cd2,cd3,cd4,cd5,cd6,cd7,cd8,cd9,cd10,cd11,cd12,cd13,cd14,cd15,cd16,cd17,cd18,cd19,cd20,cd21,cd22,cd23,cd24,cd25,cd26,cd27,cd28,cd29,cd30,cd31,cd32,cd33,cd34,cd35,cd36,cd37,cd38,cd39⟩ hf hd
        have hf' : b23 = false := hf
        subst hf'
        have d21 : b21 = true := hd ⟨21, .data⟩ (by simp) rfl
        subst d21
        have d22 : b22 = true := hd ⟨22, .data⟩ (by simp) rfl
        subst d22
        have d19 : b19 = true := hd ⟨19, .guard⟩ (by simp) rfl
        subst d19
        obtain rfl := cd21.out rfl
        obtain rfl := cd22.out rfl
        obtain rfl := cd19.out rfl
        clear hf hd
        try simp only [sI, s0, s1]
        intro K hK
        rw [if_pos (by rfl)]
        go_simp
        exact hK.out _ _ ⟨b0, b1, b2, b3, b4, b5, b6, b7, b8, b9, b10, b11, b12, b13, b14, b15, b16, b17, b18, true, b20, true, true, true, b24, b25, b26, b27, b28, b29, b30, b31, b32, b33, b34, b35, b36, b37, b38, b39, x88, x89, x90, x91, x92, x93, x94, x95, x96, x97, x98, x99, x100, x101, x102, x103, x104, x105, x106, .bool false, x108, .slice (some al) n c, .int .i64 (i : Nat), (.pointer (some (al.add (i * 32)))), x112, x113, x114, x115, x116, x117, x118, x119, x120, x121, x122, x123, x124, x125, x126, x127, (by simp only [Act.put, sI, s0, s1]), (by simp only [Act.put, sI, s0, s1]), hb, cd0, cd1, cd2, cd3, cd4, cd5, cd6, cd7, cd8, cd9, cd10, cd11, cd12, cd13, cd14, cd15, cd16, cd17, cd18, (fun _ => rfl), cd20, (fun _ => rfl), (fun _ => rfl), (fun _ => rfl), cd24, cd25, cd26, cd27, cd28, cd29, cd30, cd31, cd32, cd33, cd34, cd35, cd36, cd37, cd38, cd39⟩
      · rintro L a w ⟨b0,b1,b2,b3,b4,b5,b6,b7,b8,b9,b10,b11,b12,b13,b14,b15,b16,b17,b18,b19,b20,b21,b22,b23,b24,b25,b26,b27,b28,b29,b30,b31,b32,b33,b34,b35,b36,b37,b38,b39,x88,x89,x90,x91,x92,x93,x94,x95,x96,x97,x98,x99,x100,x101,x102,x103,x104,x105,x106,x107,x108,x109,x110,x111,x112,x113,x114,x115,x116,x117,x118,x119,x120,x121,x122,x123,x124,x125,x126,x127,rfl,rfl,hb,cd0,cd1,cd2,cd3,cd4,cd5,cd6,cd7,cd8,cd9,cd10,cd11,cd12,cd13,cd14,cd15,cd16,cd17,cd18,cd19,cd20,cd21,cd22,cd23,cd24,cd25,cd26,cd27,cd28,cd29,cd30,cd31,cd32,cd33,cd34,cd35,cd36,cd37,cd38,cd39⟩ hf hd
        have hf' : b24 = false := hf
        subst hf'
        have d23 : b23 = true := hd ⟨23, .data⟩ (by simp) rfl
        subst d23
        have d19 : b19 = true := hd ⟨19, .guard⟩ (by simp) rfl
        subst d19
        obtain rfl := cd23.out rfl
        obtain rfl := cd19.out rfl
        clear hf hd
        try simp only [sI, s0, s1]
        intro K hK
        rw [if_pos (by rfl)]
        refine wp_load_at 27 _ rfl (al.add (i * 32)) rfl li (tI.past hb) _ _ u24 (hash_size _ hI32) ?_
        exact hK.out _ _ ⟨b0, b1, b2, b3, b4, b5, b6, b7, b8, b9, b10, b11, b12, b13, b14, b15, b16, b17, b18, true, b20, b21, b22, true, true, b25, b26, b27, b28, b29, b30, b31, b32, b33, b34, b35, b36, b37, b38, b39, x88, x89, x90, x91, x92, x93, x94, x95, x96, x97, x98, x99, x100, x101, x102, x103, x104, x105, x106, .bool false, x108, x109, x110, .pointer (some (al.add (i * 32))), (.agg (bcs li).toArray), x113, x114, x115, x116, x117, x118, x119, x120, x121, x122, x123, x124, x125, x126, x127, (by simp only [Act.put, sI, s0, s1]), (by simp only [Act.put, sI, s0, s1]), hb, cd0, cd1, cd2, cd3, cd4, cd5, cd6, cd7, cd8, cd9, cd10, cd11, cd12, cd13, cd14, cd15, cd16, cd17, cd18, (fun _ => rfl), cd20, cd21, cd22, (fun _ => rfl), (fun _ => rfl), cd25, cd26, cd27, cd28, cd29, cd30, cd31, cd32, cd33, cd34, cd35, cd36, cd37, cd38, cd39⟩
      · rintro L a w ⟨b0,b1,b2,b3,b4,b5,b6,b7,b8,b9,b10,b11,b12,b13,b14,b15,b16,b17,b18,b19,b20,b21,b22,b23,b24,b25,b26,b27,b28,b29,b30,b31,b32,b33,b34,b35,b36,b37,b38,b39,x88,x89,x90,x91,x92,x93,x94,x95,x96,x97,x98,x99,x100,x101,x102,x103,x104,x105,x106,x107,x108,x109,x110,x111,x112,x113,x114,x115,x116,x117,x118,x119,x120,x121,x122,x123,x124,x125,x126,x127,rfl,rfl,hb,cd0,cd1,cd2,cd3,cd4,cd5,cd6,cd7,cd8,cd9,cd10,cd11,cd12,cd13,cd14,cd15,cd16,cd17,cd18,cd19,cd20,cd21,cd22,cd23,cd24,cd25,cd26,cd27,cd28,cd29,cd30,cd31,cd32,cd33,cd34,cd35,cd36,cd37,cd38,cd39⟩ hf hd
        have hf' : b25 = false := hf
        subst hf'
        have d19 : b19 = true := hd ⟨19, .guard⟩ (by simp) rfl
        subst d19
        obtain rfl := cd19.out rfl
        clear hf hd
        try simp only [sI, s0, s1]
        intro K hK
        rw [if_pos (by rfl)]
        go_simp
        exact hK.out _ _ ⟨b0, b1, b2, b3, b4, b5, b6, b7, b8, b9, b10, b11, b12, b13, b14, b15, b16, b17, b18, true, b20, b21, b22, b23, b24, true, b26, b27, b28, b29, b30, b31, b32, b33, b34, b35, b36, b37, b38, b39, x88, x89, x90, x91, x92, x93, x94, x95, x96, x97, x98, x99, x100, x101, x102, x103, x104, x105, x106, .bool false, x108, x109, x110, x111, x112, (.int .i64 (j : Nat)), x114, x115, x116, x117, x118, x119, x120, x121, x122, x123, x124, x125, x126, x127, (by simp only [Act.put, sI, s0, s1]), (by simp only [Act.put, sI, s0, s1]), hb, cd0, cd1, cd2, cd3, cd4, cd5, cd6, cd7, cd8, cd9, cd10, cd11, cd12, cd13, cd14, cd15, cd16, cd17, cd18, (fun _ => rfl), cd20, cd21, cd22, cd23, cd24, (fun _ => rfl), cd26, cd27, cd28, cd29, cd30, cd31, cd32, cd33, cd34, cd35, cd36, cd37, cd38, cd39⟩
      · rintro L a w ⟨b0,b1,b2,b3,b4,b5,b6,b7,b8,b9,b10,b11,b12,b13,b14,b15,b16,b17,b18,b19,b20,b21,b22,b23,b24,b25,b26,b27,b28,b29,b30,b31,b32,b33,b34,b35,b36,b37,b38,b39,x88,x89,x90,x91,x92,x93,x94,x95,x96,x97,x98,x99,x100,x101,x102,x103,x104,x105,x106,x107,x108,x109,x110,x111,x112,x113,x114,x115,x116,x117,x118,x119,x120,x121,x122,x123,x124,x125,x126,x127,rfl,rfl,hb,cd0,cd1,cd2,cd3,cd4,cd5,cd6,cd7,cd8,cd9,cd10,cd11,cd12,cd13,cd14,cd15,cd16,cd17,cd18,cd19,cd20,cd21,cd22,cd23,cd24,cd25,cd26,cd27,cd28,cd29,cd30,cd31,cd32,cd33,cd34,cd35,cd36,cd37,cd38,cd39⟩ hf hd
        have hf' : b26 = false := hf
        subst hf'
        have d19 : b19 = true := hd ⟨19, .guard⟩ (by simp) rfl
        subst d19
        obtain rfl := cd19.out rfl
        clear hf hd
        try simp only [sI, s0, s1]
        intro K hK
        rw [if_pos (by rfl)]
        go_simp
        exact hK.out _ _ ⟨b0, b1, b2, b3, b4, b5, b6, b7, b8, b9, b10, b11, b12, b13, b14, b15, b16, b17, b18, true, b20, b21, b22, b23, b24, b25, true, b27, b28, b29, b30, b31, b32, b33, b34, b35, b36, b37, b38, b39, x88, x89, x90, x91, x92, x93, x94, x95, x96, x97, x98, x99, x100, x101, x102, x103, x104, x105, x106, .bool false, x108, x109, x110, x111, x112, x113, (.int .i64 (n : Nat)), x115, x116, x117, x118, x119, x120, x121, x122, x123, x124, x125, x126, x127, (by simp only [Act.put, sI, s0, s1]), (by simp only [Act.put, sI, s0, s1]), hb, cd0, cd1, cd2, cd3, cd4, cd5, cd6, cd7, cd8, cd9, cd10, cd11, cd12, cd13, cd14, cd15, cd16, cd17, cd18, (fun _ => rfl), cd20, cd21, cd22, cd23, cd24, cd25, (fun _ => rfl), cd27, cd28, cd29, cd30, cd31, cd32, cd33, cd34, cd35, cd36, cd37, cd38, cd39⟩
      · rintro L a w ⟨b0,b1,b2,b3,b4,b5,b6,b7,b8,b9,b10,b11,b12,b13,b14,b15,b16,b17,b18,b19,b20,b21,b22,b23,b24,b25,b26,b27,b28,b29,b30,b31,b32,b33,b34,b35,b36,b37,b38,b39,x88,x89,x90,x91,x92,x93,x94,x95,x96,x97,x98,x99,x100,x101,x102,x103,x104,x105,x106,x107,x108,x109,x110,x111,x112,x113,x114,x115,x116,x117,x118,x119,x120,x121,x122,x123,x124,x125,x126,x127,rfl,rfl,hb,cd0,cd1,cd2,cd3,cd4,cd5,cd6,cd7,cd8,cd9,cd10,cd11,cd12,cd13,cd14,cd15,cd16,cd17,cd18,cd19,cd20,cd21,cd22,cd23,cd24,cd25,cd26,cd27,cd28,cd29,cd30,cd31,cd32,cd33,cd34,cd35,cd36,cd37,cd38,cd39⟩ hf hd
        have hf' : b27 = false := hf
        subst hf'
        have d19 : b19 = true := hd ⟨19, .guard⟩ (by simp) rfl
        subst d19
        obtain rfl := cd19.out rfl
        clear hf hd
        try simp only [sI, s0, s1]
        intro K hK
        rw [if_pos (by rfl)]
        go_simp
        exact hK.out _ _ ⟨b0, b1, b2, b3, b4, b5, b6, b7, b8, b9, b10, b11, b12, b13, b14, b15, b16, b17, b18, true, b20, b21, b22, b23, b24, b25, b26, true, b28, b29, b30, b31, b32, b33, b34, b35, b36, b37, b38, b39, x88, x89, x90, x91, x92, x93, x94, x95, x96, x97, x98, x99, x100, x101, x102, x103, x104, x105, x106, .bool false, x108, x109, x110, x111, x112, x113, x114, (.slice ap m cp), x116, x117, x118, x119, x120, x121, x122, x123, x124, x125, x126, x127, (by simp only [Act.put, sI, s0, s1]), (by simp only [Act.put, sI, s0, s1]), hb, cd0, cd1, cd2, cd3, cd4, cd5, cd6, cd7, cd8, cd9, cd10, cd11, cd12, cd13, cd14, cd15, cd16, cd17, cd18, (fun _ => rfl), cd20, cd21, cd22, cd23, cd24, cd25, cd26, (fun _ => rfl), cd28, cd29, cd30, cd31, cd32, cd33, cd34, cd35, cd36, cd37, cd38, cd39⟩
      · rintro L a w ⟨b0,b1,b2,b3,b4,b5,b6,b7,b8,b9,b10,b11,b12,b13,b14,b15,b16,b17,b18,b19,b20,b21,b22,b23,b24,b25,b26,b27,b28,b29,b30,b31,b32,b33,b34,b35,b36,b37,b38,b39,x88,x89,x90,x91,x92,x93,x94,x95,x96,x97,x98,x99,x100,x101,x102,x103,x104,x105,x106,x107,x108,x109,x110,x111,x112,x113,x114,x115,x116,x117,x118,x119,x120,x121,x122,x123,x124,x125,x126,x127,rfl,rfl,hb,cd0,cd1,cd2,cd3,cd4,cd5,cd6,cd7,cd8,cd9,cd10,cd11,cd12,cd13,cd14,cd15,cd16,cd17,cd18,cd19,cd20,cd21,cd22,cd23,cd24,cd25,cd26,cd27,cd28,cd29,cd30,cd31,cd32,cd33,cd34,cd35,cd36,cd37,cd38,cd39⟩ hf hd
        have hf' : b28 = false := hf
        subst hf'
        have d20 : b20 = true := hd ⟨20, .data⟩ (by simp) rfl
        subst d20
        have d24 : b24 = true := hd ⟨24, .data⟩ (by simp) rfl
        subst d24
        have d25 : b25 = true := hd ⟨25, .data⟩ (by simp) rfl
        subst d25
        have d26 : b26 = true := hd ⟨26, .data⟩ (by simp) rfl
        subst d26
        have d27 : b27 = true := hd ⟨27, .data⟩ (by simp) rfl
        subst d27
        have d19 : b19 = true := hd ⟨19, .chain⟩ (by simp) rfl
        subst d19
        obtain rfl := cd20.out rfl
        obtain rfl := cd24.out rfl
        obtain rfl := cd25.out rfl
        obtain rfl := cd26.out rfl
        obtain rfl := cd27.out rfl
        obtain rfl := cd19.out rfl
        clear hf hd
        try simp only [sI, s0, s1]
        intro K hK
        rw [if_pos (by rfl)]
        go_simp
        go_at_call 9
        refine (M6 _ (hC.past hb) (hP.past hb)).mono ?_
        rintro e w2 ⟨rfl, bx⟩
        exact hK.out _ _ ⟨b0, b1, b2, b3, b4, b5, b6, b7, b8, b9, b10, b11, b12, b13, b14, b15, b16, b17, b18, true, true, b21, b22, b23, true, true, true, true, true, b29, b30, b31, b32, b33, b34, b35, b36, b37, b38, b39, x88, x89, x90, x91, x92, x93, x94, x95, x96, x97, x98, x99, x100, x101, x102, x103, x104, x105, x106, .bool false, .agg (bcs r).toArray, x109, x110, x111, .agg (bcs li).toArray, .int .i64 (j : Nat), .int .i64 (n : Nat), .slice ap m cp, (.bool C2), x117, x118, x119, x120, x121, x122, x123, x124, x125, x126, x127, (by simp only [Act.put, sI, s0, s1]), (by simp only [Act.put, sI, s0, s1]), hb.trans (bx.mono hb.size), cd0, cd1, cd2, cd3, cd4, cd5, cd6, cd7, cd8, cd9, cd10, cd11, cd12, cd13, cd14, cd15, cd16, cd17, cd18, (fun _ => rfl), (fun _ => rfl), cd21, cd22, cd23, (fun _ => rfl), (fun _ => rfl), (fun _ => rfl), (fun _ => rfl), (fun _ => rfl), cd29, cd30, cd31, cd32, cd33, cd34, cd35, cd36, cd37, cd38, cd39⟩
      · rintro L a w ⟨b0,b1,b2,b3,b4,b5,b6,b7,b8,b9,b10,b11,b12,b13,b14,b15,b16,b17,b18,b19,b20,b21,b22,b23,b24,b25,b26,b27,b28,b29,b30,b31,b32,b33,b34,b35,b36,b37,b38,b39,x88,x89,x90,x91,x92,x93,x94,x95,x96,x97,x98,x99,x100,x101,x102,x103,x104,x105,x106,x107,x108,x109,x110,x111,x112,x113,x114,x115,x116,x117,x118,x119,x120,x121,x122,x123,x124,x125,x126,x127,rfl,rfl,hb,cd0,cd1,cd2,cd3,cd4,cd5,cd6,cd7,cd8,cd9,cd10,cd11,cd12,cd13,cd14,cd15,cd16,cd17,cd18,cd19,cd20,cd21,cd22,cd23,cd24,cd25,cd26,cd27,cd28,cd29,cd30,cd31,cd32,cd33,cd34,cd35,cd36,cd37,cd38,cd39⟩ hf hd
        have hf' : b29 = false := hf
        subst hf'
        have d19 : b19 = true := hd ⟨19, .guard⟩ (by simp) rfl
        subst d19
        obtain rfl := cd19.out rfl
        clear hf hd
        try simp only [sI, s0, s1]
        intro K hK
        rw [if_pos (by rfl)]
        refine wp_load_at 27 _ rfl ⟨g, 0, none⟩ rfl r (hg.past hb).at_ _ _ u24 (hash_size _ HR) ?_
        exact hK.out _ _ ⟨b0, b1, b2, b3, b4, b5, b6, b7, b8, b9, b10, b11, b12, b13, b14, b15, b16, b17, b18, true, b20, b21, b22, b23, b24, b25, b26, b27, b28, true, b30, b31, b32, b33, b34, b35, b36, b37, b38, b39, x88, x89, x90, x91, x92, x93, x94, x95, x96, x97, x98, x99, x100, x101, x102, x103, x104, x105, x106, .bool false, x108, x109, x110, x111, x112, x113, x114, x115, x116, (.agg (bcs r).toArray), x118, x119, x120, x121, x122, x123, x124, x125, x126, x127, (by simp only [Act.put, sI, s0, s1]), (by simp only [Act.put, sI, s0, s1]), hb, cd0, cd1, cd2, cd3, cd4, cd5, cd6, cd7, cd8, cd9, cd10, cd11, cd12, cd13, cd14, cd15, cd16, cd17, cd18, (fun _ => rfl), cd20, cd21, cd22, cd23, cd24, cd25, cd26, cd27, cd28, (fun _ => rfl), cd30, cd31, cd32, cd33, cd34, cd35, cd36, cd37, cd38, cd39⟩
      · rintro L a w ⟨b0,b1,b2,b3,b4,b5,b6,b7,b8,b9,b10,b11,b12,b13,b14,b15,b16,b17,b18,b19,b20,b21,b22,b23,b24,b25,b26,b27,b28,b29,b30,b31,b32,b33,b34,b35,b36,b37,b38,b39,x88,x89,x90,x91,x92,x93,x94,x95,x96,x97,x98,x99,x100,x101,x102,x103,x104,x105,x106,x107,x108,x109,x110,x111,x112,x113,x114,x115,x116,x117,x118,x119,x120,x121,x122,x123,x124,x125,x126,x127,rfl,rfl,hb,cd0,cd1,cd2,cd3,cd4,cd5,cd6,cd7,cd8,cd9,cd10,cd11,cd12,cd13,cd14,cd15,cd16,cd17,cd18,cd19,cd20,cd21,cd22,cd23,cd24,cd25,cd26,cd27,cd28,cd29,cd30,cd31,cd32,cd33,cd34,cd35,cd36,cd37,cd38,cd39⟩ hf hd
        have hf' : b30 = false := hf
        subst hf'
        have d19 : b19 = true := hd ⟨19, .guard⟩ (by simp) rfl
        subst d19
        obtain rfl := cd19.out rfl
        clear hf hd
        try simp only [sI, s0, s1]
        intro K hK
        rw [if_pos (by rfl)]
        go_simp
        exact hK.out _ _ ⟨b0, b1, b2, b3, b4, b5, b6, b7, b8, b9, b10, b11, b12, b13, b14, b15, b16, b17, b18, true, b20, b21, b22, b23, b24, b25, b26, b27, b28, b29, true, b31, b32, b33, b34, b35, b36, b37, b38, b39, x88, x89, x90, x91, x92, x93, x94, x95, x96, x97, x98, x99, x100, x101, x102, x103, x104, x105, x106, .bool false, x108, x109, x110, x111, x112, x113, x114, x115, x116, x117, (.slice (some al) n c), x119, x120, x121, x122, x123, x124, x125, x126, x127, (by simp only [Act.put, sI, s0, s1]), (by simp only [Act.put, sI, s0, s1]), hb, cd0, cd1, cd2, cd3, cd4, cd5, cd6, cd7, cd8, cd9, cd10, cd11, cd12, cd13, cd14, cd15, cd16, cd17, cd18, (fun _ => rfl), cd20, cd21, cd22, cd23, cd24, cd25, cd26, cd27, cd28, cd29, (fun _ => rfl), cd31, cd32, cd33, cd34, cd35, cd36, cd37, cd38, cd39⟩
      · rintro L a w ⟨b0,b1,b2,b3,b4,b5,b6,b7,b8,b9,b10,b11,b12,b13,b14,b15,b16,b17,b18,b19,b20,b21,b22,b23,b24,b25,b26,b27,b28,b29,b30,b31,b32,b33,b34,b35,b36,b37,b38,b39,x88,x89,x90,x91,x92,x93,x94,x95,x96,x97,x98,x99,x100,x101,x102,x103,x104,x105,x106,x107,x108,x109,x110,x111,x112,x113,x114,x115,x116,x117,x118,x119,x120,x121,x122,x123,x124,x125,x126,x127,rfl,rfl,hb,cd0,cd1,cd2,cd3,cd4,cd5,cd6,cd7,cd8,cd9,cd10,cd11,cd12,cd13,cd14,cd15,cd16,cd17,cd18,cd19,cd20,cd21,cd22,cd23,cd24,cd25,cd26,cd27,cd28,cd29,cd30,cd31,cd32,cd33,cd34,cd35,cd36,cd37,cd38,cd39⟩ hf hd
        have hf' : b31 = false := hf
        subst hf'
        have d19 : b19 = true := hd ⟨19, .guard⟩ (by simp) rfl
        subst d19
        obtain rfl := cd19.out rfl
        clear hf hd
        try simp only [sI, s0, s1]
        intro K hK
        rw [if_pos (by rfl)]
        go_simp
        exact hK.out _ _ ⟨b0, b1, b2, b3, b4, b5, b6, b7, b8, b9, b10, b11, b12, b13, b14, b15, b16, b17, b18, true, b20, b21, b22, b23, b24, b25, b26, b27, b28, b29, b30, true, b32, b33, b34, b35, b36, b37, b38, b39, x88, x89, x90, x91, x92, x93, x94, x95, x96, x97, x98, x99, x100, x101, x102, x103, x104, x105, x106, .bool false, x108, x109, x110, x111, x112, x113, x114, x115, x116, x117, x118, (.int .i64 (i : Nat)), x120, x121, x122, x123, x124, x125, x126, x127, (by simp only [Act.put, sI, s0, s1]), (by simp only [Act.put, sI, s0, s1]), hb, cd0, cd1, cd2, cd3, cd4, cd5, cd6, cd7, cd8, cd9, cd10, cd11, cd12, cd13, cd14, cd15, cd16, cd17, cd18, (fun _ => rfl), cd20, cd21, cd22, cd23, cd24, cd25, cd26, cd27, cd28, cd29, cd30, (fun _ => rfl), cd32, cd33, cd34, cd35, cd36, cd37, cd38, cd39⟩
      · rintro L a w ⟨b0,b1,b2,b3,b4,b5,b6,b7,b8,b9,b10,b11,b12,b13,b14,b15,b16,b17,b18,b19,b20,b21,b22,b23,b24,b25,b26,b27,b28,b29,b30,b31,b32,b33,b34,b35,b36,b37,b38,b39,x88,x89,x90,x91,x92,x93,x94,x95,x96,x97,x98,x99,x100,x101,x102,x103,x104,x105,x106,x107,x108,x109,x110,x111,x112,x113,x114,x115,x116,x117,x118,x119,x120,x121,x122,x123,x124,x125,x126,x127,rfl,rfl,hb,cd0,cd1,cd2,cd3,cd4,cd5,cd6,cd7,cd8,cd9,cd10,cd11,cd12,cd13,cd14,cd15,cd16,cd17,cd18,cd19,cd20,cd21,cd22,cd23,cd24,cd25,cd26,cd27,cd28,cd29,cd30,cd31,cd32,cd33,cd34,cd35,cd36,cd37,cd38,cd39⟩ hf hd
        have hf' : b32 = false := hf
        subst hf'
        have d30 : b30 = true := hd ⟨30, .data⟩ (by simp) rfl
        subst d30
        have d31 : b31 = true := hd ⟨31, .data⟩ (by simp) rfl
        subst d31
        have d19 : b19 = true := hd ⟨19, .guard⟩ (by simp) rfl
        subst d19
        obtain rfl := cd30.out rfl
        obtain rfl := cd31.out rfl
        obtain rfl := cd19.out rfl
        clear hf hd
        try simp only [sI, s0, s1]
        intro K hK
        rw [if_pos (by rfl)]
        go_simp
        exact hK.out _ _ ⟨b0, b1, b2, b3, b4, b5, b6, b7, b8, b9, b10, b11, b12, b13, b14, b15, b16, b17, b18, true, b20, b21, b22, b23, b24, b25, b26, b27, b28, b29, true, true, true, b33, b34, b35, b36, b37, b38, b39, x88, x89, x90, x91, x92, x93, x94, x95, x96, x97, x98, x99, x100, x101, x102, x103, x104, x105, x106, .bool false, x108, x109, x110, x111, x112, x113, x114, x115, x116, x117, .slice (some al) n c, .int .i64 (i : Nat), (.pointer (some (al.add (i * 32)))), x121, x122, x123, x124, x125, x126, x127, (by simp only [Act.put, sI, s0, s1]), (by simp only [Act.put, sI, s0, s1]), hb, cd0, cd1, cd2, cd3, cd4, cd5, cd6, cd7, cd8, cd9, cd10, cd11, cd12, cd13, cd14, cd15, cd16, cd17, cd18, (fun _ => rfl), cd20, cd21, cd22, cd23, cd24, cd25, cd26, cd27, cd28, cd29, (fun _ => rfl), (fun _ => rfl), (fun _ => rfl), cd33, cd34, cd35, cd36, cd37, cd38, cd39⟩
      · rintro L a w ⟨b0,b1,b2,b3,b4,b5,b6,b7,b8,b9,b10,b11,b12,b13,b14,b15,b16,b17,b18,b19,b20,b21,b22,b23,b24,b25,b26,b27,b28,b29,b30,b31,b32,b33,b34,b35,b36,b37,b38,b39,x88,x89,x90,x91,x92,x93,x94,x95,x96,x97,x98,x99,x100,x101,x102,x103,x104,x105,x106,x107,x108,x109,x110,x111,x112,x113,x114,x115,x116,x117,x118,x119,x120,x121,x122,x123,x124,x125,x126,x127,rfl,rfl,hb,cd0,cd1,cd2,cd3,cd4,cd5,cd6,cd7,cd8,cd9,cd10,cd11,cd12,cd13,cd14,cd15,cd16,cd17,cd18,cd19,cd20,cd21,cd22,cd23,cd24,cd25,cd26,cd27,cd28,cd29,cd30,cd31,cd32,cd33,cd34,cd35,cd36,cd37,cd38,cd39⟩ hf hd
        have hf' : b33 = false := hf
        subst hf'
        have d32 : b32 = true := hd ⟨32, .data⟩ (by simp) rfl
        subst d32
        have d19 : b19 = true := hd ⟨19, .guard⟩ (by simp) rfl
        subst d19
        obtain rfl := cd32.out rfl
        obtain rfl := cd19.out rfl
        clear hf hd
        try simp only [sI, s0, s1]
        intro K hK
        rw [if_pos (by rfl)]
        refine wp_load_at 27 _ rfl (al.add (i * 32)) rfl li (tI.past hb) _ _ u24 (hash_size _ hI32) ?_
        exact hK.out _ _ ⟨b0, b1, b2, b3, b4, b5, b6, b7, b8, b9, b10, b11, b12, b13, b14, b15, b16, b17, b18, true, b20, b21, b22, b23, b24, b25, b26, b27, b28, b29, b30, b31, true, true, b34, b35, b36, b37, b38, b39, x88, x89, x90, x91, x92, x93, x94, x95, x96, x97, x98, x99, x100, x101, x102, x103, x104, x105, x106, .bool false, x108, x109, x110, x111, x112, x113, x114, x115, x116, x117, x118, x119, .pointer (some (al.add (i * 32))), (.agg (bcs li).toArray), x122, x123, x124, x125, x126, x127, (by simp only [Act.put, sI, s0, s1]), (by simp only [Act.put, sI, s0, s1]), hb, cd0, cd1, cd2, cd3, cd4, cd5, cd6, cd7, cd8, cd9, cd10, cd11, cd12, cd13, cd14, cd15, cd16, cd17, cd18, (fun _ => rfl), cd20, cd21, cd22, cd23, cd24, cd25, cd26, cd27, cd28, cd29, cd30, cd31, (fun _ => rfl), (fun _ => rfl), cd34, cd35, cd36, cd37, cd38, cd39⟩
      · rintro L a w ⟨b0,b1,b2,b3,b4,b5,b6,b7,b8,b9,b10,b11,b12,b13,b14,b15,b16,b17,b18,b19,b20,b21,b22,b23,b24,b25,b26,b27,b28,b29,b30,b31,b32,b33,b34,b35,b36,b37,b38,b39,x88,x89,x90,x91,x92,x93,x94,x95,x96,x97,x98,x99,x100,x101,x102,x103,x104,x105,x106,x107,x108,x109,x110,x111,x112,x113,x114,x115,x116,x117,x118,x119,x120,x121,x122,x123,x124,x125,x126,x127,rfl,rfl,hb,cd0,cd1,cd2,cd3,cd4,cd5,cd6,cd7,cd8,cd9,cd10,cd11,cd12,cd13,cd14,cd15,cd16,cd17,cd18,cd19,cd20,cd21,cd22,cd23,cd24,cd25,cd26,cd27,cd28,cd29,cd30,cd31,cd32,cd33,cd34,cd35,cd36,cd37,cd38,cd39⟩ hf hd
        have hf' : b34 = false := hf
        subst hf'
        have d19 : b19 = true := hd ⟨19, .guard⟩ (by simp) rfl
        subst d19
        obtain rfl := cd19.out rfl
        clear hf hd
        try simp only [sI, s0, s1]
        intro K hK
        rw [if_pos (by rfl)]
        go_simp
        exact hK.out _ _ ⟨b0, b1, b2, b3, b4, b5, b6, b7, b8, b9, b10, b11, b12, b13, b14, b15, b16, b17, b18, true, b20, b21, b22, b23, b24, b25, b26, b27, b28, b29, b30, b31, b32, b33, true, b35, b36, b37, b38, b39, x88, x89, x90, x91, x92, x93, x94, x95, x96, x97, x98, x99, x100, x101, x102, x103, x104, x105, x106, .bool false, x108, x109, x110, x111, x112, x113, x114, x115, x116, x117, x118, x119, x120, x121, (.int .i64 (j : Nat)), x123, x124, x125, x126, x127, (by simp only [Act.put, sI, s0, s1]), (by simp only [Act.put, sI, s0, s1]), hb, cd0, cd1, cd2, cd3, cd4, cd5, cd6, cd7, cd8, cd9, cd10, cd11, cd12, cd13, cd14, cd15, cd16, cd17, cd18, (fun _ => rfl), cd20, cd21, cd22, cd23, cd24, cd25, cd26, cd27, cd28, cd29, cd30, cd31, cd32, cd33, (fun _ => rfl), cd35, cd36, cd37, cd38, cd39⟩
      · rintro L a w ⟨b0,b1,b2,b3,b4,b5,b6,b7,b8,b9,b10,b11,b12,b13,b14,b15,b16,b17,b18,b19,b20,b21,b22,b23,b24,b25,b26,b27,b28,b29,b30,b31,b32,b33,b34,b35,b36,b37,b38,b39,x88,x89,x90,x91,x92,x93,x94,x95,x96,x97,x98,x99,x100,x101,x102,x103,x104,x105,x106,x107,x108,x109,x110,x111,x112,x113,x114,x115,x116,x117,x118,x119,x120,x121,x122,x123,x124,x125,x126,x127,rfl,rfl,hb,cd0,cd1,cd2,cd3,cd4,cd5,cd6,cd7,cd8,cd9,cd10,cd11,cd12,cd13,cd14,cd15,cd16,cd17,cd18,cd19,cd20,cd21,cd22,cd23,cd24,cd25,cd26,cd27,cd28,cd29,cd30,cd31,cd32,cd33,cd34,cd35,cd36,cd37,cd38,cd39⟩ hf hd
        have hf' : b35 = false := hf
        subst hf'
        have d19 : b19 = true := hd ⟨19, .guard⟩ (by simp) rfl
        subst d19
        obtain rfl := cd19.out rfl
        clear hf hd
        try simp only [sI, s0, s1]
        intro K hK
        rw [if_pos (by rfl)]
        go_simp
        exact hK.out _ _ ⟨b0, b1, b2, b3, b4, b5, b6, b7, b8, b9, b10, b11, b12, b13, b14, b15, b16, b17, b18, true, b20, b21, b22, b23, b24, b25, b26, b27, b28, b29, b30, b31, b32, b33, b34, true, b36, b37, b38, b39, x88, x89, x90, x91, x92, x93, x94, x95, x96, x97, x98, x99, x100, x101, x102, x103, x104, x105, x106, .bool false, x108, x109, x110, x111, x112, x113, x114, x115, x116, x117, x118, x119, x120, x121, x122, (.int .i64 (n : Nat)), x124, x125, x126, x127, (by simp only [Act.put, sI, s0, s1]), (by simp only [Act.put, sI, s0, s1]), hb, cd0, cd1, cd2, cd3, cd4, cd5, cd6, cd7, cd8, cd9, cd10, cd11, cd12, cd13, cd14, cd15, cd16, cd17, cd18, (fun _ => rfl), cd20, cd21, cd22, cd23, cd24, cd25, cd26, cd27, cd28, cd29, cd30, cd31, cd32, cd33, cd34, (fun _ => rfl), cd36, cd37, cd38, cd39⟩
      · rintro L a w ⟨b0,b1,b2,b3,b4,b5,b6,b7,b8,b9,b10,b11,b12,b13,b14,b15,b16,b17,b18,b19,b20,b21,b22,b23,b24,b25,b26,b27,b28,b29,b30,b31,b32,b33,b34,b35,b36,b37,b38,b39,x88,x89,x90,x91,x92,x93,x94,x95,x96,x97,x98,x99,x100,x101,x102,x103,x104,x105,x106,x107,x108,x109,x110,x111,x112,x113,x114,x115,x116,x117,x118,x119,x120,x121,x122,x123,x124,x125,x126,x127,rfl,rfl,hb,cd0,cd1,cd2,cd3,cd4,cd5,cd6,cd7,cd8,cd9,cd10,cd11,cd12,cd13,cd14,cd15,cd16,cd17,cd18,cd19,cd20,cd21,cd22,cd23,cd24,cd25,cd26,cd27,cd28,cd29,cd30,cd31,cd32,cd33,cd34,cd35,cd36,cd37,cd38,cd39⟩ hf hd
        have hf' : b36 = false := hf
        subst hf'
        have d19 : b19 = true := hd ⟨19, .guard⟩ (by simp) rfl
        subst d19
        obtain rfl := cd19.out rfl
        clear hf hd
        try simp only [sI, s0, s1]
        intro K hK
        rw [if_pos (by rfl)]
        go_simp
        exact hK.out _ _ ⟨b0, b1, b2, b3, b4, b5, b6, b7, b8, b9, b10, b11, b12, b13, b14, b15, b16, b17, b18, true, b20, b21, b22, b23, b24, b25, b26, b27, b28, b29, b30, b31, b32, b33, b34, b35, true, b37, b38, b39, x88, x89, x90, x91, x92, x93, x94, x95, x96, x97, x98, x99, x100, x101, x102, x103, x104, x105, x106, .bool false, x108, x109, x110, x111, x112, x113, x114, x115, x116, x117, x118, x119, x120, x121, x122, x123, (.slice ap m cp), x125, x126, x127, (by simp only [Act.put, sI, s0, s1]), (by simp only [Act.put, sI, s0, s1]), hb, cd0, cd1, cd2, cd3, cd4, cd5, cd6, cd7, cd8, cd9, cd10, cd11, cd12, cd13, cd14, cd15, cd16, cd17, cd18, (fun _ => rfl), cd20, cd21, cd22, cd23, cd24, cd25, cd26, cd27, cd28, cd29, cd30, cd31, cd32, cd33, cd34, cd35, (fun _ => rfl), cd37, cd38, cd39⟩
      · rintro L a w ⟨b0,b1,b2,b3,b4,b5,b6,b7,b8,b9,b10,b11,b12,b13,b14,b15,b16,b17,b18,b19,b20,b21,b22,b23,b24,b25,b26,b27,b28,b29,b30,b31,b32,b33,b34,b35,b36,b37,b38,b39,x88,x89,x90,x91,x92,x93,x94,x95,x96,x97,x98,x99,x100,x101,x102,x103,x104,x105,x106,x107,x108,x109,x110,x111,x112,x113,x114,x115,x116,x117,x118,x119,x120,x121,x122,x123,x124,x125,x126,x127,rfl,rfl,hb,cd0,cd1,cd2,cd3,cd4,cd5,cd6,cd7,cd8,cd9,cd10,cd11,cd12,cd13,cd14,cd15,cd16,cd17,cd18,cd19,cd20,cd21,cd22,cd23,cd24,cd25,cd26,cd27,cd28,cd29,cd30,cd31,cd32,cd33,cd34,cd35,cd36,cd37,cd38,cd39⟩ hf hd
        have hf' : b37 = false := hf
        subst hf'
        have d29 : b29 = true := hd ⟨29, .data⟩ (by simp) rfl
        subst d29
        have d33 : b33 = true := hd ⟨33, .data⟩ (by simp) rfl
        subst d33
        have d34 : b34 = true := hd ⟨34, .data⟩ (by simp) rfl
        subst d34
        have d35 : b35 = true := hd ⟨35, .data⟩ (by simp) rfl
        subst d35
        have d36 : b36 = true := hd ⟨36, .data⟩ (by simp) rfl
        subst d36
        have d28 : b28 = true := hd ⟨28, .chain⟩ (by simp) rfl
        subst d28
        have d19 : b19 = true := hd ⟨19, .guard⟩ (by simp) rfl
        subst d19
        obtain rfl := cd29.out rfl
        obtain rfl := cd33.out rfl
        obtain rfl := cd34.out rfl
        obtain rfl := cd35.out rfl
        obtain rfl := cd36.out rfl
        obtain rfl := cd28.out rfl
        obtain rfl := cd19.out rfl
        clear hf hd
        try simp only [sI, s0, s1]
        intro K hK
        rw [if_pos (by rfl)]
        go_simp
        go_at_call 10
        refine (R6 _ (hP.past hb)).mono ?_
        rintro e w2 ⟨rfl, bx⟩
        exact hK.out _ _ ⟨b0, b1, b2, b3, b4, b5, b6, b7, b8, b9, b10, b11, b12, b13, b14, b15, b16, b17, b18, true, b20, b21, b22, b23, b24, b25, b26, b27, true, true, b30, b31, b32, true, true, true, true, true, b38, b39, x88, x89, x90, x91, x92, x93, x94, x95, x96, x97, x98, x99, x100, x101, x102, x103, x104, x105, x106, .bool false, x108, x109, x110, x111, x112, x113, x114, x115, .bool C2, .agg (bcs r).toArray, x118, x119, x120, .agg (bcs li).toArray, .int .i64 (j : Nat), .int .i64 (n : Nat), .slice ap m cp, (.bool C2), x126, x127, (by simp only [Act.put, sI, s0, s1]), (by simp only [Act.put, sI, s0, s1]), hb.trans (bx.mono hb.size), cd0, cd1, cd2, cd3, cd4, cd5, cd6, cd7, cd8, cd9, cd10, cd11, cd12, cd13, cd14, cd15, cd16, cd17, cd18, (fun _ => rfl), cd20, cd21, cd22, cd23, cd24, cd25, cd26, cd27, (fun _ => rfl), (fun _ => rfl), cd30, cd31, cd32, (fun _ => rfl), (fun _ => rfl), (fun _ => rfl), (fun _ => rfl), (fun _ => rfl), cd38, cd39⟩
      · rintro L a w ⟨b0,b1,b2,b3,b4,b5,b6,b7,b8,b9,b10,b11,b12,b13,b14,b15,b16,b17,b18,b19,b20,b21,b22,b23,b24,b25,b26,b27,b28,b29,b30,b31,b32,b33,b34,b35,b36,b37,b38,b39,x88,x89,x90,x91,x92,x93,x94,x95,x96,x97,x98,x99,x100,x101,x102,x103,x104,x105,x106,x107,x108,x109,x110,x111,x112,x113,x114,x115,x116,x117,x118,x119,x120,x121,x122,x123,x124,x125,x126,x127,rfl,rfl,hb,cd0,cd1,cd2,cd3,cd4,cd5,cd6,cd7,cd8,cd9,cd10,cd11,cd12,cd13,cd14,cd15,cd16,cd17,cd18,cd19,cd20,cd21,cd22,cd23,cd24,cd25,cd26,cd27,cd28,cd29,cd30,cd31,cd32,cd33,cd34,cd35,cd36,cd37,cd38,cd39⟩ hf hd
        have hf' : b38 = false := hf
        subst hf'
        have d28 : b28 = true := hd ⟨28, .data⟩ (by simp) rfl
        subst d28
        have d37 : b37 = true := hd ⟨37, .data⟩ (by simp) rfl
        subst d37
        have d19 : b19 = true := hd ⟨19, .guard⟩ (by simp) rfl
        subst d19
        obtain rfl := cd28.out rfl
        obtain rfl := cd37.out rfl
        obtain rfl := cd19.out rfl
        clear hf hd
        try simp only [sI, s0, s1]
        intro K hK
        rw [if_pos (by rfl)]
        go_simp
        exact hK.out _ _ ⟨b0, b1, b2, b3, b4, b5, b6, b7, b8, b9, b10, b11, b12, b13, b14, b15, b16, b17, b18, true, b20, b21, b22, b23, b24, b25, b26, b27, true, b29, b30, b31, b32, b33, b34, b35, b36, true, true, b39, x88, x89, x90, x91, x92, x93, x94, x95, x96, x97, x98, x99, x100, x101, x102, x103, x104, x105, x106, .bool false, x108, x109, x110, x111, x112, x113, x114, x115, .bool C2, x117, x118, x119, x120, x121, x122, x123, x124, .bool C2, (.bool false), x127, (by simp only [Act.put, sI, s0, s1]), (by simp only [Act.put, sI, s0, s1]), hb, cd0, cd1, cd2, cd3, cd4, cd5, cd6, cd7, cd8, cd9, cd10, cd11, cd12, cd13, cd14, cd15, cd16, cd17, cd18, (fun _ => rfl), cd20, cd21, cd22, cd23, cd24, cd25, cd26, cd27, (fun _ => rfl), cd29, cd30, cd31, cd32, cd33, cd34, cd35, cd36, (fun _ => rfl), (fun _ => rfl), cd39⟩
      · rintro L a w ⟨b0,b1,b2,b3,b4,b5,b6,b7,b8,b9,b10,b11,b12,b13,b14,b15,b16,b17,b18,b19,b20,b21,b22,b23,b24,b25,b26,b27,b28,b29,b30,b31,b32,b33,b34,b35,b36,b37,b38,b39,x88,x89,x90,x91,x92,x93,x94,x95,x96,x97,x98,x99,x100,x101,x102,x103,x104,x105,x106,x107,x108,x109,x110,x111,x112,x113,x114,x115,x116,x117,x118,x119,x120,x121,x122,x123,x124,x125,x126,x127,rfl,rfl,hb,cd0,cd1,cd2,cd3,cd4,cd5,cd6,cd7,cd8,cd9,cd10,cd11,cd12,cd13,cd14,cd15,cd16,cd17,cd18,cd19,cd20,cd21,cd22,cd23,cd24,cd25,cd26,cd27,cd28,cd29,cd30,cd31,cd32,cd33,cd34,cd35,cd36,cd37,cd38,cd39⟩ hf hd
        have hf' : b39 = false := hf
        subst hf'
        have d19 : b19 = true := hd ⟨19, .data⟩ (by simp) rfl
        subst d19
        have d38 : b38 = true := hd ⟨38, .data⟩ (by simp) rfl
        subst d38
        obtain rfl := cd19.out rfl
        obtain rfl := cd38.out rfl
        clear hf hd
        try simp only [sI, s0, s1]
        intro K hK
        rw [if_pos (by rfl)]
        go_simp
        exact hK.out _ _ ⟨b0, b1, b2, b3, b4, b5, b6, b7, b8, b9, b10, b11, b12, b13, b14, b15, b16, b17, b18, true, b20, b21, b22, b23, b24, b25, b26, b27, b28, b29, b30, b31, b32, b33, b34, b35, b36, b37, true, true, x88, x89, x90, x91, x92, x93, x94, x95, x96, x97, x98, x99, x100, x101, x102, x103, x104, x105, x106, .bool false, x108, x109, x110, x111, x112, x113, x114, x115, x116, x117, x118, x119, x120, x121, x122, x123, x124, x125, .bool false, (.bool false), (by simp only [Act.put, sI, s0, s1]), (by simp only [Act.put, sI, s0, s1]), hb, cd0, cd1, cd2, cd3, cd4, cd5, cd6, cd7, cd8, cd9, cd10, cd11, cd12, cd13, cd14, cd15, cd16, cd17, cd18, (fun _ => rfl), cd20, cd21, cd22, cd23, cd24, cd25, cd26, cd27, cd28, cd29, cd30, cd31, cd32, cd33, cd34, cd35, cd36, cd37, (fun _ => rfl), (fun _ => rfl)⟩
    · rintro a w ⟨b0,b1,b2,b3,b4,b5,b6,b7,b8,b9,b10,b11,b12,b13,b14,b15,b16,b17,b18,b19,b20,b21,b22,b23,b24,b25,b26,b27,b28,b29,b30,b31,b32,b33,b34,b35,b36,b37,b38,b39,x88,x89,x90,x91,x92,x93,x94,x95,x96,x97,x98,x99,x100,x101,x102,x103,x104,x105,x106,x107,x108,x109,x110,x111,x112,x113,x114,x115,x116,x117,x118,x119,x120,x121,x122,x123,x124,x125,x126,x127,hL,rfl,hb,cd0,cd1,cd2,cd3,cd4,cd5,cd6,cd7,cd8,cd9,cd10,cd11,cd12,cd13,cd14,cd15,cd16,cd17,cd18,cd19,cd20,cd21,cd22,cd23,cd24,cd25,cd26,cd27,cd28,cd29,cd30,cd31,cd32,cd33,cd34,cd35,cd36,cd37,cd38,cd39⟩
      have hL' : [true, true, true, true, true, true, true, true, true, true, true, true, true, true, true, true, true, true, true, true, true, true, true, true, true, true, true, true, true, true, true, true, true, true, true, true, true, true, true, true] = [b0, b1, b2, b3, b4, b5, b6, b7, b8, b9, b10, b11, b12, b13, b14, b15, b16, b17, b18, b19, b20, b21, b22, b23, b24, b25, b26, b27, b28, b29, b30, b31, b32, b33, b34, b35, b36, b37, b38, b39] := congrArg Array.toList hL
      simp only [List.cons.injEq, and_true] at hL'
      obtain ⟨rfl, rfl, rfl, rfl, rfl, rfl, rfl, rfl, rfl, rfl, rfl, rfl, rfl, rfl, rfl, rfl, rfl, rfl, rfl, rfl, rfl, rfl, rfl, rfl, rfl, rfl, rfl, rfl, rfl, rfl, rfl, rfl, rfl, rfl, rfl, rfl, rfl, rfl, rfl, rfl⟩ := hL'
      obtain rfl := cd0.out rfl
      obtain rfl := cd1.out rfl
      obtain rfl := cd2.out rfl
      obtain rfl := cd3.out rfl
      obtain rfl := cd4.out rfl
      obtain rfl := cd5.out rfl
      obtain rfl := cd6.out rfl
      obtain rfl := cd7.out rfl
      obtain rfl := cd8.out rfl
      obtain rfl := cd9.out rfl
      obtain rfl := cd10.out rfl
      obtain rfl := cd11.out rfl
      obtain rfl := cd12.out rfl
      obtain rfl := cd13.out rfl
      obtain rfl := cd14.out rfl
      obtain rfl := cd15.out rfl
      obtain rfl := cd16.out rfl
      obtain rfl := cd17.out rfl
      obtain rfl := cd18.out rfl
      obtain rfl := cd19.out rfl
      obtain rfl := cd20.out rfl
      obtain rfl := cd21.out rfl
      obtain rfl := cd22.out rfl
      obtain rfl := cd23.out rfl
      obtain rfl := cd24.out rfl
      obtain rfl := cd25.out rfl
      obtain rfl := cd26.out rfl
      obtain rfl := cd27.out rfl
      obtain rfl := cd28.out rfl
      obtain rfl := cd29.out rfl
      obtain rfl := cd30.out rfl
      obtain rfl := cd31.out rfl
      obtain rfl := cd32.out rfl
      obtain rfl := cd33.out rfl
      obtain rfl := cd34.out rfl
      obtain rfl := cd35.out rfl
      obtain rfl := cd36.out rfl
      obtain rfl := cd37.out rfl
      obtain rfl := cd38.out rfl
      obtain rfl := cd39.out rfl
      clear hL
      simp only [sI, s0, s1]
      go_wp2_with fail
      go_meet
      exact ⟨rfl, hb8.trans (hb.mono hb8.size)⟩
  obtain ⟨rfl, b8⟩ := hcut
  clear M5 R5 M6 R6 tJ
  replace G7 := G7.past b8
  replace hP7 := hP7.past b8
  replace tI := tI.past b8
  replace hC7 := hC7.past b8
  replace B7 := B7.trans (b8.mono B7.size)
  clear b8
  by_cases hm0 : m = 0
  · have hz : ((m : Int) == 0) = true := by simp [hm0]
    have hz2 : decide ((m : Int) = 0) = true := by simp [hm0]
    go_wp2_with fail
    go_ret
    exact ⟨rfl, B7⟩
  have hz : ((m : Int) == 0) = false := by simp [hm0]
  have hz2 : ¬ ((m : Int) = 0) := by omega
  go_wp2_with (at_builtin; go_loud (refine wpList_append_h0 rfl _ _ rfl wc.heap.size (by simp) wc.heap.size rfl (ownH_empty wc wc.heap.size (Nat.le_refl _)) ap m cp p rfl (hP7.past ((Below.refl _ wc).alloc (Nat.le_refl _) _)) (by omega) ?_); intro v10 w10 o10 b10)
  have b10' : Below wc.heap.size wc w10 := ((Below.refl wc.heap.size wc).alloc (Nat.le_refl _) (.cells #[] 27)).trans (b10.mono (by simp))
  obtain ⟨gq, cq, cur, rfl, hgq, hblk⟩ := own_open o10 (by omega)
  obtain ⟨k, hk, hkm⟩ := wth_nat a3 m (by omega)
  obtain ⟨b, hb, hb32⟩ := wth_nat a3 32 (by omega)
  obtain ⟨e, he, he8⟩ := wth_nat a3 8 (by omega)
  have W1 : ∀ w, Calls Tryd.prog 5 #[.int .i64 a3, .int .i64 (m : Int)] w fun e' w' => e' = .returned (.int .i64 (k : Int)) ∧ w' = w := fun w => by
    have := within3_any a3 m w (by omega) (by omega)
    rw [hk] at this
    exact this.mono fun _ _ ⟨a, b⟩ => ⟨a, b.symm⟩
  have W2 : ∀ w, Calls Tryd.prog 5 #[.int .i64 a3, .int .i64 32] w fun e' w' => e' = .returned (.int .i64 (b : Int)) ∧ w' = w := fun w => by
    have := within3_any a3 32 w (by omega) (by omega)
    rw [show wth a3 32 = (b : Int) from hb] at this
    exact this.mono fun _ _ ⟨a, b⟩ => ⟨a, b.symm⟩
  have W3 : ∀ w, Calls Tryd.prog 5 #[.int .i64 a3, .int .i64 8] w fun e' w' => e' = .returned (.int .i64 (e : Int)) ∧ w' = w := fun w => by
    have := within3_any a3 8 w (by omega) (by omega)
    rw [show wth a3 8 = (e : Int) from he] at this
    exact this.mono fun _ _ ⟨a, b⟩ => ⟨a, b.symm⟩
  obtain ⟨u, hu⟩ := own_byte o10 k b hkm hb32
  have hfr : w10.frozen? ⟨gq, k * 32 + b, none⟩ = false := by simp [World.frozen?, hblk]
  have hkm' : (k : Int) < m := by omega
  have hb32' : (b : Int) < 32 := by omega
  have hwe : IntKind.u64.wrap (e : Int) = (e : Int) := IntWalk.u64_in _ (by omega)
  clear hk hb he
  go_still_tail 17, (by kernel_rfl)
  still_call (W1 _)
  first | still_call (W2 _) | (still_step; still_call (W2 _))
  first | still_call (W3 _) | (still_step; still_call (W3 _)) | (still_step; still_step; still_call (W3 _)) | (still_step; still_step; still_step; still_call (W3 _)) | (still_step; still_step; still_step; still_step; still_call (W3 _))
  repeat still_step
  refine wpStill_nil ?_
  change wpList _ _ _ _ _ w10.drew
  go_wp2_with fail
  obtain ⟨u', hu'⟩ : ∃ u' : UInt8, bits BinOp.xor IntKind.u8 (u.toNat : Int) (2 ^ e % 256) = (u'.toNat : Int) := by
    have h1 := bits_lo_u8 BinOp.xor (u.toNat : Int) (2 ^ e % 256)
    have h2 := bits_hi_u8 BinOp.xor (u.toNat : Int) (2 ^ e % 256)
    exact ⟨UInt8.ofNat (bits BinOp.xor IntKind.u8 (u.toNat : Int) (2 ^ e % 256)).toNat, by rw [UInt8.toNat_ofNat']; omega⟩
  rw [hu']
  have o11 := own_store o10 k b hkm hb32 u'
  have bX := (b10'.setCell (p := ⟨gq, k * 32 + b, none⟩) hgq (bc u')).drew
  obtain ⟨aq, cq', eq, hQ0, -⟩ := o11.isH
  simp only [Value.slice.injEq, true_and] at eq
  obtain ⟨rfl, rfl⟩ := eq
  generalize p.set k ((p.getD k []).set b u') = q at hQ0
  have hQ := hQ0.past (Below.refl _ _).drew
  replace G7 := G7.past bX
  replace hP7 := hP7.past bX
  replace tI := tI.past bX
  replace hC7 := hC7.past bX
  replace B7 := B7.trans (bX.mono B7.size)
  change Code.wp _ _ _ _ (World.drew (World.setCell w10 ⟨gq, k * 32 + b, none⟩ (bc u')))
  generalize World.drew (World.setCell w10 ⟨gq, k * 32 + b, none⟩ (bc u')) = wz at hQ G7 hP7 tI hC7 B7 ⊢
  clear hQ0 o11 bX b10' b10 o10 hu' hu hfr W1 W2 W3
  have M7 := fun w h1 h2 => mcheck_all r li (i : Int) (n : Int) (some ⟨gq, 0, none⟩) m cq q w h1 HR hI32 h2 (by omega)
  have R7 := fun w h2 => rcheck_all r li (i : Int) (n : Int) (some ⟨gq, 0, none⟩) m cq q w HR hI32 h2
  generalize chkI r li (i : Int) (n : Int) q = C3 at M7 R7
  obtain ⟨ah, runH, hH0⟩ := IsH_head hP7 (m - 1) (by omega)
  have em : ((m - 1 : Nat) : Int) = (m : Int) - 1 := by omega
  rw [em] at runH
  have c8 : chkI r li (i : Int) (n : Int) (p.take (m - 1)) = false := by
    unfold chkI
    rw [if_pos (by omega), Int.toNat_natCast, Int.toNat_natCast]
    unfold chk
    have : ((p.take (m - 1)).length == (Mk.dirs n i).length) = false := by
      rw [← PLM.out, List.length_take, HPM.out]
      simp
      omega
    rw [this, Bool.false_and]
  have M8 := fun w h1 h2 => mcheck_all r li (i : Int) (n : Int) ah (m - 1) cp (p.take (m - 1)) w h1 HR hI32 h2 (by omega)
  rw [c8] at M8
  clear c8 em
  have hg := G7.past (Below.refl _ wz).drew
  have hP := hP7.past (Below.refl _ wz).drew
  have hH := hH0.past (Below.refl _ wz).drew
  replace hQ := hQ.past (Below.refl _ wz).drew
  replace tI := tI.past (Below.refl _ wz).drew
  replace hC := hC7.past (Below.refl _ wz).drew
  have B := B7.drew
  clear G7 hP7 B7 hC7 hH0
  generalize p.take (m - 1) = ph at hH M8
  refine region_inv (Holds16 al n c i g r ap m cp p li gq cq C3 ah) (by kernel_rfl) (by kernel_rfl) ?_ ?_ ?_
  · exact ⟨false, false, false, false, false, false, false, false, false, false, false, false, false, false, false, false, false, false, false, false, false, false, false, false, false, false, false, false, false, false, false, false, false, false, false, false, undef, undef, undef, undef, undef, undef, undef, undef, undef, undef, undef, undef, undef, undef, undef, undef, undef, undef, undef, undef, undef, undef, undef, undef, undef, undef, undef, undef, undef, undef, undef, undef, undef, undef, undef, .bool false, rfl, (by simp only [Act.put, sI, s0, s1]), Below.refl _ _, (fun h => by cases h), (fun h => by cases h), (fun h => by cases h), (fun h => by cases h), (fun h => by cases h), (fun h => by cases h), (fun h => by cases h), (fun h => by cases h), (fun h => by cases h), (fun h => by cases h), (fun h => by cases h), (fun h => by cases h), (fun h => by cases h), (fun h => by cases h), (fun h => by cases h), (fun h => by cases h), (fun h => by cases h), (fun h => by cases h), (fun h => by cases h), (fun h => by cases h), (fun h => by cases h), (fun h => by cases h), (fun h => by cases h), (fun h => by cases h), (fun h => by cases h), (fun h => by cases h), (fun h => by cases h), (fun h => by cases h), (fun h => by cases h), (fun h => by cases h), (fun h => by cases h), (fun h => by cases h), (fun h => by cases h), (fun h => by cases h), (fun h => by cases h), (fun h => by cases h)⟩
  · refine ⟨?_, ?_, ?_, ?_, ?_, ?_, ?_, ?_, ?_, ?_, ?_, ?_, ?_, ?_, ?_, ?_, ?_, ?_, ?_, ?_, ?_, ?_, ?_, ?_, ?_, ?_, ?_, ?_, ?_, ?_, ?_, ?_, ?_, ?_, ?_, ?_, trivial⟩
    · rintro L a w ⟨b0,b1,b2,b3,b4,b5,b6,b7,b8,b9,b10,b11,b12,b13,b14,b15,b16,b17,b18,b19,b20,b21,b22,b23,b24,b25,b26,b27,b28,b29,b30,b31,b32,b33,b34,b35,x151,x152,x153,x154,x155,x156,x157,x158,x159,x160,x161,x162,x163,x164,x165,x166,x167,x168,x169,x170,x171,x172,x173,x174,x175,x176,x177,x178,x179,x180,x181,x182,x183,x184,x185,x8,rfl,rfl,hb,cd0,cd1,cd2,cd3,cd4,cd5,cd6,cd7,cd8,cd9,cd10,cd11,cd12,cd13,cd14,cd15,cd16,cd17,cd18,cd19,cd20,cd21,cd22,cd23,cd24,cd25,cd26,cd27,cd28,cd29,cd30,cd31,cd32,cd33,cd34,cd35⟩ hf hd
      have hf' : b0 = false := hf
      subst hf'
      clear hf hd
      try simp only [sI, s0, s1]
      intro K hK
      rw [if_pos (by rfl)]
      refine wp_load_at 27 _ rfl ⟨g, 0, none⟩ rfl r (hg.past hb).at_ _ _ u24 (hash_size _ HR) ?_
      exact hK.out _ _ ⟨true, b1, b2, b3, b4, b5, b6, b7, b8, b9, b10, b11, b12, b13, b14, b15, b16, b17, b18, b19, b20, b21, b22, b23, b24, b25, b26, b27, b28, b29, b30, b31, b32, b33, b34, b35, (.agg (bcs r).toArray), x152, x153, x154, x155, x156, x157, x158, x159, x160, x161, x162, x163, x164, x165, x166, x167, x168, x169, x170, x171, x172, x173, x174, x175, x176, x177, x178, x179, x180, x181, x182, x183, x184, x185, x8, (by simp only [Act.put, sI, s0, s1]), (by simp only [Act.put, sI, s0, s1]), hb, (fun _ => rfl), cd1, cd2, cd3, cd4, cd5, cd6, cd7, cd8, cd9, cd10, cd11, cd12, cd13, cd14, cd15, cd16, cd17, cd18, cd19, cd20, cd21, cd22, cd23, cd24, cd25, cd26, cd27, cd28, cd29, cd30, cd31, cd32, cd33, cd34, cd35⟩
    · rintro L a w ⟨b0,b1,b2,b3,b4,b5,b6,b7,b8,b9,b10,b11,b12,b13,b14,b15,b16,b17,b18,b19,b20,b21,b22,b23,b24,b25,b26,b27,b28,b29,b30,b31,b32,b33,b34,b35,x151,x152,x153,x154,x155,x156,x157,x158,x159,x160,x161,x162,x163,x164,x165,x166,x167,x168,x169,x170,x171,x172,x173,x174,x175,x176,x177,x178,x179,x180,x181,x182,x183,x184,x185,x8,rfl,rfl,hb,cd0,cd1,cd2,cd3,cd4,cd5,cd6,cd7,cd8,cd9,cd10,cd11,cd12,cd13,cd14,cd15,cd16,cd17,cd18,cd19,cd20,cd21,cd22,cd23,cd24,cd25,cd26,cd27,cd28,cd29,cd30,cd31,cd32,cd33,cd34,cd35⟩ hf hd
      have hf' : b1 = false := hf
      subst hf'
      clear hf hd
      try simp only [sI, s0, s1]
      intro K hK
      rw [if_pos (by rfl)]
      go_simp
      exact hK.out _ _ ⟨b0, true, b2, b3, b4, b5, b6, b7, b8, b9, b10, b11, b12, b13, b14, b15, b16, b17, b18, b19, b20, b21, b22, b23, b24, b25, b26, b27, b28, b29, b30, b31, b32, b33, b34, b35, x151, (.slice (some al) n c), x153, x154, x155, x156, x157, x158, x159, x160, x161, x162, x163, x164, x165, x166, x167, x168, x169, x170, x171, x172, x173, x174, x175, x176, x177, x178, x179, x180, x181, x182, x183, x184, x185, x8, (by simp only [Act.put, sI, s0, s1]), (by simp only [Act.put, sI, s0, s1]), hb, cd0, (fun _ => rfl), cd2, cd3, cd4, cd5, cd6, cd7, cd8, cd9, cd10, cd11, cd12, cd13, cd14, cd15, cd16, cd17, cd18, cd19, cd20, cd21, cd22, cd23, cd24, cd25, cd26, cd27, cd28, cd29, cd30, cd31, cd32, cd33, cd34, cd35⟩
    · rintro L a w ⟨b0,b1,b2,b3,b4,b5,b6,b7,b8,b9,b10,b11,b12,b13,b14,b15,b16,b17,b18,b19,b20,b21,b22,b23,b24,b25,b26,b27,b28,b29,b30,b31,b32,b33,b34,b35,x151,x152,x153,x154,x155,x156,x157,x158,x159,x160,x161,x162,x163,x164,x165,x166,x167,x168,x169,x170,x171,x172,x173,x174,x175,x176,x177,x178,x179,x180,x181,x182,x183,x184,x185,x8,rfl,rfl,hb,cd0,cd1,cd2,cd3,cd4,cd5,cd6,cd7,cd8,cd9,cd10,cd11,cd12,cd13,cd14,cd15,cd16,cd17,cd18,cd19,cd20,cd21,cd22,cd23,cd24,cd25,cd26,cd27,cd28,cd29,cd30,cd31,cd32,cd33,cd34,cd35⟩ hf hd
      have hf' : b2 = false := hf
      subst hf'
      clear hf hd
      try simp only [sI, s0, s1]
      intro K hK
      rw [if_pos (by rfl)]
      go_simp
      exact hK.out _ _ ⟨b0, b1, true, b3, b4, b5, b6, b7, b8, b9, b10, b11, b12, b13, b14, b15, b16, b17, b18, b19, b20, b21, b22, b23, b24, b25, b26, b27, b28, b29, b30, b31, b32, b33, b34, b35, x151, x152, (.int .i64 (i : Nat)), x154, x155, x156, x157, x158, x159, x160, x161, x162, x163, x164, x165, x166, x167, x168, x169, x170, x171, x172, x173, x174, x175, x176, x177, x178, x179, x180, x181, x182, x183, x184, x185, x8, (by simp only [Act.put, sI, s0, s1]), (by simp only [Act.put, sI, s0, s1]), hb, cd0, cd1, (fun _ => rfl), cd3, cd4, cd5, cd6, cd7, cd8, cd9, cd10, cd11, cd12, cd13, cd14, cd15, cd16, cd17, cd18, cd19, cd20, cd21, cd22, cd23, cd24, cd25, cd26, cd27, cd28, cd29, cd30, cd31, cd32, cd33, cd34, cd35⟩
    · rintro L a w ⟨b0,b1,b2,b3,b4,b5,b6,b7,b8,b9,b10,b11,b12,b13,b14,b15,b16,b17,b18,b19,b20,b21,b22,b23,b24,b25,b26,b27,b28,b29,b30,b31,b32,b33,b34,b35,x151,x152,x153,x154,x155,x156,x157,x158,x159,x160,x161,x162,x163,x164,x165,x166,x167,x168,x169,x170,x171,x172,x173,x174,x175,x176,x177,x178,x179,x180,x181,x182,x183,x184,x185,x8,rfl,rfl,hb,cd0,cd1,cd2,cd3,cd4,cd5,cd6,cd7,cd8,cd9,cd10,cd11,cd12,cd13,cd14,cd15,cd16,cd17,cd18,cd19,cd20,cd21,cd22,cd23,cd24,cd25,cd26,cd27,cd28,cd29,cd30,cd31,cd32,cd33,cd34,cd35⟩ hf hd
      have hf' : b3 = false := hf
      subst hf'
      have d1 : b1 = true := hd ⟨1, .data⟩ (by simp) rfl
      subst d1
      have d2 : b2 = true := hd ⟨2, .data⟩ (by simp) rfl
      subst d2
      obtain rfl := cd1.out rfl
      obtain rfl := cd2.out rfl
      clear hf hd
      try simp only [sI, s0, s1]
      intro K hK
      rw [if_pos (by rfl)]
      go_simp
      exact hK.out _ _ ⟨b0, true, true, true, b4, b5, b6, b7, b8, b9, b10, b11, b12, b13, b14, b15, b16, b17, b18, b19, b20, b21, b22, b23, b24, b25, b26, b27, b28, b29, b30, b31, b32, b33, b34, b35, x151, .slice (some al) n c, .int .i64 (i : Nat), (.pointer (some (al.add (i * 32)))), x155, x156, x157, x158, x159, x160, x161, x162, x163, x164, x165, x166, x167, x168, x169, x170, x171, x172, x173, x174, x175, x176, x177, x178, x179, x180, x181, x182, x183, x184, x185, x8, (by simp only [Act.put, sI, s0, s1]), (by simp only [Act.put, sI, s0, s1]), hb, cd0, (fun _ => rfl), (fun _ => rfl), (fun _ => rfl), cd4, cd5, cd6, cd7, cd8, cd9, cd10, cd11, cd12, cd13, cd14, cd15, cd16, cd17, cd18, cd19, cd20, cd21, cd22, cd23, cd24, cd25, cd26, cd27, cd28, cd29, cd30, cd31, cd32, cd33, cd34, cd35⟩
    · rintro L a w ⟨b0,b1,b2,b3,b4,b5,b6,b7,b8,b9,b10,b11,b12,b13,b14,b15,b16,b17,b18,b19,b20,b21,b22,b23,b24,b25,b26,b27,b28,b29,b30,b31,b32,b33,b34,b35,x151,x152,x153,x154,x155,x156,x157,x158,x159,x160,x161,x162,x163,x164,x165,x166,x167,x168,x169,x170,x171,x172,x173,x174,x175,x176,x177,x178,x179,x180,x181,x182,x183,x184,x185,x8,rfl,rfl,hb,cd0,cd1,cd2,cd3,cd4,cd5,cd6,cd7,cd8,cd9,cd10,cd11,cd12,cd13,cd14,cd15,cd16,cd17,cd18,cd19,cd20,cd21,cd22,cd23,cd24,cd25,cd26,cd27,cd28,cd29,cd30,cd31,cd32,cd33,cd34,cd35⟩ hf hd
      have hf' : b4 = false := hf
      subst hf'
      have d3 : b3 = true := hd ⟨3, .data⟩ (by simp) rfl
      subst d3
      obtain rfl := cd3.out rfl
      clear hf hd
      try simp only [sI, s0, s1]
      intro K hK
      rw [if_pos (by rfl)]
      refine wp_load_at 27 _ rfl (al.add (i * 32)) rfl li (tI.past hb) _ _ u24 (hash_size _ hI32) ?_
      exact hK.out _ _ ⟨b0, b1, b2, true, true, b5, b6, b7, b8, b9, b10, b11, b12, b13, b14, b15, b16, b17, b18, b19, b20, b21, b22, b23, b24, b25, b26, b27, b28, b29, b30, b31, b32, b33, b34, b35, x151, x152, x153, .pointer (some (al.add (i * 32))), (.agg (bcs li).toArray), x156, x157, x158, x159, x160, x161, x162, x163, x164, x165, x166, x167, x168, x169, x170, x171, x172, x173, x174, x175, x176, x177, x178, x179, x180, x181, x182, x183, x184, x185, x8, (by simp only [Act.put, sI, s0, s1]), (by simp only [Act.put, sI, s0, s1]), hb, cd0, cd1, cd2, (fun _ => rfl), (fun _ => rfl), cd5, cd6, cd7, cd8, cd9, cd10, cd11, cd12, cd13, cd14, cd15, cd16, cd17, cd18, cd19, cd20, cd21, cd22, cd23, cd24, cd25, cd26, cd27, cd28, cd29, cd30, cd31, cd32, cd33, cd34, cd35⟩
    · rintro L a w ⟨b0,b1,b2,b3,b4,b5,b6,b7,b8,b9,b10,b11,b12,b13,b14,b15,b16,b17,b18,b19,b20,b21,b22,b23,b24,b25,b26,b27,b28,b29,b30,b31,b32,b33,b34,b35,x151,x152,x153,x154,x155,x156,x157,x158,x159,x160,x161,x162,x163,x164,x165,x166,x167,x168,x169,x170,x171,x172,x173,x174,x175,x176,x177,x178,x179,x180,x181,x182,x183,x184,x185,x8,rfl,rfl,hb,cd0,cd1,cd2,cd3,cd4,cd5,cd6,cd7,cd8,cd9,cd10,cd11,cd12,cd13,cd14,cd15,cd16,cd17,cd18,cd19,cd20,cd21,cd22,cd23,cd24,cd25,cd26,cd27,cd28,cd29,cd30,cd31,cd32,cd33,cd34,cd35⟩ hf hd
      have hf' : b5 = false := hf
      subst hf'
      clear hf hd
      try simp only [sI, s0, s1]
      intro K hK
      rw [if_pos (by rfl)]
      go_simp
      exact hK.out _ _ ⟨b0, b1, b2, b3, b4, true, b6, b7, b8, b9, b10, b11, b12, b13, b14, b15, b16, b17, b18, b19, b20, b21, b22, b23, b24, b25, b26, b27, b28, b29, b30, b31, b32, b33, b34, b35, x151, x152, x153, x154, x155, (.int .i64 (i : Nat)), x157, x158, x159, x160, x161, x162, x163, x164, x165, x166, x167, x168, x169, x170, x171, x172, x173, x174, x175, x176, x177, x178, x179, x180, x181, x182, x183, x184, x185, x8, (by simp only [Act.put, sI, s0, s1]), (by simp only [Act.put, sI, s0, s1]), hb, cd0, cd1, cd2, cd3, cd4, (fun _ => rfl), cd6, cd7, cd8, cd9, cd10, cd11, cd12, cd13, cd14, cd15, cd16, cd17, cd18, cd19, cd20, cd21, cd22, cd23, cd24, cd25, cd26, cd27, cd28, cd29, cd30, cd31, cd32, cd33, cd34, cd35⟩
    · rintro L a w ⟨b0,b1,b2,b3,b4,b5,b6,b7,b8,b9,b10,b11,b12,b13,b14,b15,b16,b17,b18,b19,b20,b21,b22,b23,b24,b25,b26,b27,b28,b29,b30,b31,b32,b33,b34,b35,x151,x152,x153,x154,x155,x156,x157,x158,x159,x160,x161,x162,x163,x164,x165,x166,x167,x168,x169,x170,x171,x172,x173,x174,x175,x176,x177,x178,x179,x180,x181,x182,x183,x184,x185,x8,rfl,rfl,hb,cd0,cd1,cd2,cd3,cd4,cd5,cd6,cd7,cd8,cd9,cd10,cd11,cd12,cd13,cd14,cd15,cd16,cd17,cd18,cd19,cd20,cd21,cd22,cd23,cd24,cd25,cd26,cd27,cd28,cd29,cd30,cd31,cd32,cd33,cd34,cd35⟩ hf hd
      have hf' : b6 = false := hf
      subst hf'
      clear hf hd
      try simp only [sI, s0, s1]
      intro K hK
      rw [if_pos (by rfl)]
      go_simp
      exact hK.out _ _ ⟨b0, b1, b2, b3, b4, b5, true, b7, b8, b9, b10, b11, b12, b13, b14, b15, b16, b17, b18, b19, b20, b21, b22, b23, b24, b25, b26, b27, b28, b29, b30, b31, b32, b33, b34, b35, x151, x152, x153, x154, x155, x156, (.int .i64 (n : Nat)), x158, x159, x160, x161, x162, x163, x164, x165, x166, x167, x168, x169, x170, x171, x172, x173, x174, x175, x176, x177, x178, x179, x180, x181, x182, x183, x184, x185, x8, (by simp only [Act.put, sI, s0, s1]), (by simp only [Act.put, sI, s0, s1]), hb, cd0, cd1, cd2, cd3, cd4, cd5, (fun _ => rfl), cd7, cd8, cd9, cd10, cd11, cd12, cd13, cd14, cd15, cd16, cd17, cd18, cd19, cd20, cd21, cd22, cd23, cd24, cd25, cd26, cd27, cd28, cd29, cd30, cd31, cd32, cd33, cd34, cd35⟩
    · rintro L a w ⟨b0,b1,b2,b3,b4,b5,b6,b7,b8,b9,b10,b11,b12,b13,b14,b15,b16,b17,b18,b19,b20,b21,b22,b23,b24,b25,b26,b27,b28,b29,b30,b31,b32,b33,b34,b35,x151,x152,x153,x154,x155,x156,x157,x158,x159,x160,x161,x162,x163,x164,x165,x166,x167,x168,x169,x170,x171,x172,x173,x174,x175,x176,x177,x178,x179,x180,x181,x182,x183,x184,x185,x8,rfl,rfl,hb,cd0,cd1,cd2,cd3,cd4,cd5,cd6,cd7,cd8,cd9,cd10,cd11,cd12,cd13,cd14,cd15,cd16,cd17,cd18,cd19,cd20,cd21,cd22,cd23,cd24,cd25,cd26,cd27,cd28,cd29,cd30,cd31,cd32,cd33,cd34,cd35⟩ hf hd
      have hf' : b7 = false := hf
      subst hf'
      clear hf hd
      try simp only [sI, s0, s1]
      intro K hK
      rw [if_pos (by rfl)]
      go_simp
      exact hK.out _ _ ⟨b0, b1, b2, b3, b4, b5, b6, true, b8, b9, b10, b11, b12, b13, b14, b15, b16, b17, b18, b19, b20, b21, b22, b23, b24, b25, b26, b27, b28, b29, b30, b31, b32, b33, b34, b35, x151, x152, x153, x154, x155, x156, x157, (.slice (some ⟨gq, 0, none⟩) m cq), x159, x160, x161, x162, x163, x164, x165, x166, x167, x168, x169, x170, x171, x172, x173, x174, x175, x176, x177, x178, x179, x180, x181, x182, x183, x184, x185, x8, (by simp only [Act.put, sI, s0, s1]), (by simp only [Act.put, sI, s0, s1]), hb, cd0, cd1, cd2, cd3, cd4, cd5, cd6, (fun _ => rfl), cd8, cd9, cd10, cd11, cd12, cd13, cd14, cd15, cd16, cd17, cd18, cd19, cd20, cd21, cd22, cd23, cd24, cd25, cd26, cd27, cd28, cd29, cd30, cd31, cd32, cd33, cd34, cd35⟩
    · rintro L a w ⟨b0,b1,b2,b3,b4,b5,b6,b7,b8,b9,b10,b11,b12,b13,b14,b15,b16,b17,b18,b19,b20,b21,b22,b23,b24,b25,b26,b27,b28,b29,b30,b31,b32,b33,b34,b35,x151,x152,x153,x154,x155,x156,x157,x158,x159,x160,x161,x162,x163,x164,x165,x166,x167,x168,x169,x170,x171,x172,x173,x174,x175,x176,x177,x178,x179,x180,x181,x182,x183,x184,x185,x8,rfl,rfl,hb,cd0,cd1,cd2,cd3,cd4,cd5,cd6,cd7,cd8,cd9,cd10,cd11,cd12,cd13,cd14,cd15,cd16,cd17,cd18,cd19,cd20,cd21,cd22,cd23,cd24,cd25,cd26,cd27,cd28,cd29,cd30,cd31,cd32,cd33,cd34,cd35⟩ hf hd
      have hf' : b8 = false := hf
      subst hf'
      have d0 : b0 = true := hd ⟨0, .data⟩ (by simp) rfl
      subst d0
      have d4 : b4 = true := hd ⟨4, .data⟩ (by simp) rfl
      subst d4
      have d5 : b5 = true := hd ⟨5, .data⟩ (by simp) rfl
      subst d5
      have d6 : b6 = true := hd ⟨6, .data⟩ (by simp) rfl
      subst d6
      have d7 : b7 = true := hd ⟨7, .data⟩ (by simp) rfl
      subst d7
      obtain rfl := cd0.out rfl
      obtain rfl := cd4.out rfl
      obtain rfl := cd5.out rfl
      obtain rfl := cd6.out rfl
      obtain rfl := cd7.out rfl
      clear hf hd
      try simp only [sI, s0, s1]
      intro K hK
      rw [if_pos (by rfl)]
      go_simp
      go_at_call 9
      refine (M7 _ (hC.past hb) (hQ.past hb)).mono ?_
      rintro e w2 ⟨rfl, bx⟩
      exact hK.out _ _ ⟨true, b1, b2, b3, true, true, true, true, true, b9, b10, b11, b12, b13, b14, b15, b16, b17, b18, b19, b20, b21, b22, b23, b24, b25, b26, b27, b28, b29, b30, b31, b32, b33, b34, b35, .agg (bcs r).toArray, x152, x153, x154, .agg (bcs li).toArray, .int .i64 (i : Nat), .int .i64 (n : Nat), .slice (some ⟨gq, 0, none⟩) m cq, (.bool C3), x160, x161, x162, x163, x164, x165, x166, x167, x168, x169, x170, x171, x172, x173, x174, x175, x176, x177, x178, x179, x180, x181, x182, x183, x184, x185, x8, (by simp only [Act.put, sI, s0, s1]), (by simp only [Act.put, sI, s0, s1]), hb.trans (bx.mono hb.size), (fun _ => rfl), cd1, cd2, cd3, (fun _ => rfl), (fun _ => rfl), (fun _ => rfl), (fun _ => rfl), (fun _ => rfl), cd9, cd10, cd11, cd12, cd13, cd14, cd15, cd16, cd17, cd18, cd19, cd20, cd21, cd22, cd23, cd24, cd25, cd26, cd27, cd28, cd29, cd30, cd31, cd32, cd33, cd34, cd35⟩
    · rintro L a w ⟨b0,b1,b2,b3,b4,b5,b6,b7,b8,b9,b10,b11,b12,b13,b14,b15,b16,b17,b18,b19,b20,b21,b22,b23,b24,b25,b26,b27,b28,b29,b30,b31,b32,b33,b34,b35,x151,x152,x153,x154,x155,x156,x157,x158,x159,x160,x161,x162,x163,x164,x165,x166,x167,x168,x169,x170,x171,x172,x173,x174,x175,x176,x177,x178,x179,x180,x181,x182,x183,x184,x185,x8,rfl,rfl,hb,cd0,cd1,cd2,cd3,cd4,cd5,cd6,cd7,cd8,cd9,cd10,cd11,cd12,cd13,cd14,cd15,cd16,cd17,cd18,cd19,cd20,cd21,cd22,cd23,cd24,cd25,cd26,cd27,cd28,cd29,cd30,cd31,cd32,cd33,cd34,cd35⟩ hf hd
      have hf' : b9 = false := hf
      subst hf'
      clear hf hd
      try simp only [sI, s0, s1]
      intro K hK
      rw [if_pos (by rfl)]
      refine wp_load_at 27 _ rfl ⟨g, 0, none⟩ rfl r (hg.past hb).at_ _ _ u24 (hash_size _ HR) ?_
      exact hK.out _ _ ⟨b0, b1, b2, b3, b4, b5, b6, b7, b8, true, b10, b11, b12, b13, b14, b15, b16, b17, b18, b19, b20, b21, b22, b23, b24, b25, b26, b27, b28, b29, b30, b31, b32, b33, b34, b35, x151, x152, x153, x154, x155, x156, x157, x158, x159, (.agg (bcs r).toArray), x161, x162, x163, x164, x165, x166, x167, x168, x169, x170, x171, x172, x173, x174, x175, x176, x177, x178, x179, x180, x181, x182, x183, x184, x185, x8, (by simp only [Act.put, sI, s0, s1]), (by simp only [Act.put, sI, s0, s1]), hb, cd0, cd1, cd2, cd3, cd4, cd5, cd6, cd7, cd8, (fun _ => rfl), cd10, cd11, cd12, cd13, cd14, cd15, cd16, cd17, cd18, cd19, cd20, cd21, cd22, cd23, cd24, cd25, cd26, cd27, cd28, cd29, cd30, cd31, cd32, cd33, cd34, cd35⟩
    · rintro L a w ⟨b0,b1,b2,b3,b4,b5,b6,b7,b8,b9,b10,b11,b12,b13,b14,b15,b16,b17,b18,b19,b20,b21,b22,b23,b24,b25,b26,b27,b28,b29,b30,b31,b32,b33,b34,b35,x151,x152,x153,x154,x155,x156,x157,x158,x159,x160,x161,x162,x163,x164,x165,x166,x167,x168,x169,x170,x171,x172,x173,x174,x175,x176,x177,x178,x179,x180,x181,x182,x183,x184,x185,x8,rfl,rfl,hb,cd0,cd1,cd2,cd3,cd4,cd5,cd6,cd7,cd8,cd9,cd10,cd11,cd12,cd13,cd14,cd15,cd16,cd17,cd18,cd19,cd20,cd21,cd22,cd23,cd24,cd25,cd26,cd27,cd28,cd29,cd30,cd31,cd32,cd33,cd34,cd35⟩ hf hd
      have hf' : b10 = false := hf
      subst hf'
      clear hf hd
      try simp only [sI, s0, s1]
      intro K hK
      rw [if_pos (by rfl)]
      go_simp
      exact hK.out _ _ ⟨b0, b1, b2, b3, b4, b5, b6, b7, b8, b9, true, b11, b12, b13, b14, b15, b16, b17, b18, b19, b20, b21, b22, b23, b24, b25, b26, b27, b28, b29, b30, b31, b32, b33, b34, b35, x151, x152, x153, x154, x155, x156, x157, x158, x159, x160, (.slice (some al) n c), x162, x163, x164, x165, x166, x167, x168, x169, x170, x171, x172, x173, x174, x175, x176, x177, x178, x179, x180, x181, x182, x183, x184, x185, x8, (by simp only [Act.put, sI, s0, s1]), (by simp only [Act.put, sI, s0, s1]), hb, cd0, cd1, cd2, cd3, cd4, cd5, cd6, cd7, cd8, cd9, (fun _ => rfl), cd11, cd12, cd13, cd14, cd15, cd16, cd17, cd18, cd19, cd20, cd21, cd22, cd23, cd24, cd25, cd26, cd27, cd28, cd29, cd30, cd31, cd32, cd33, cd34, cd35⟩
    · rintro L a w ⟨b0,b1,b2,b3,b4,b5,b6,b7,b8,b9,b10,b11,b12,b13,b14,b15,b16,b17,b18,b19,b20,b21,b22,b23,b24,b25,b26,b27,b28,b29,b30,b31,b32,b33,b34,b35,x151,x152,x153,x154,x155,x156,x157,x158,x159,x160,x161,x162,x163,x164,x165,x166,x167,x168,x169,x170,x171,x172,x173,x174,x175,x176,x177,x178,x179,x180,x181,x182,x183,x184,x185,x8,rfl,rfl,hb,cd0,cd1,cd2,cd3,cd4,cd5,cd6,cd7,cd8,cd9,cd10,cd11,cd12,cd13,cd14,cd15,cd16,cd17,cd18,cd19,cd20,cd21,cd22,cd23,cd24,cd25,cd26,cd27,cd28,cd29,cd30,cd31,cd32,cd33,cd34,cd35⟩ hf hd
      have hf' : b11 = false := hf
      subst hf'
      clear hf hd
      try simp only [sI, s0, s1]
      intro K hK
      rw [if_pos (by rfl)]
      go_simp
      exact hK.out _ _ ⟨b0, b1, b2, b3, b4, b5, b6, b7, b8, b9, b10, true, b12, b13, b14, b15, b16, b17, b18, b19, b20, b21, b22, b23, b24, b25, b26, b27, b28, b29, b30, b31, b32, b33, b34, b35, x151, x152, x153, x154, x155, x156, x157, x158, x159, x160, x161, (.int .i64 (i : Nat)), x163, x164, x165, x166, x167, x168, x169, x170, x171, x172, x173, x174, x175, x176, x177, x178, x179, x180, x181, x182, x183, x184, x185, x8, (by simp only [Act.put, sI, s0, s1]), (by simp only [Act.put, sI, s0, s1]), hb, cd0, cd1, cd2, cd3, cd4, cd5, cd6, cd7, cd8, cd9, cd10, (fun _ => rfl), cd12, cd13, cd14, cd15, cd16, cd17, cd18, cd19, cd20, cd21, cd22, cd23, cd24, cd25, cd26, cd27, cd28, cd29, cd30, cd31, cd32, cd33, cd34, cd35⟩
    · rintro L a w ⟨b0,b1,b2,b3,b4,b5,b6,b7,b8,b9,b10,b11,b12,b13,b14,b15,b16,b17,b18,b19,b20,b21,b22,b23,b24,b25,b26,b27,b28,b29,b30,b31,b32,b33,b34,b35,x151,x152,x153,x154,x155,x156,x157,x158,x159,x160,x161,x162,x163,x164,x165,x166,x167,x168,x169,x170,x171,x172,x173,x174,x175,x176,x177,x178,x179,x180,x181,x182,x183,x184,x185,x8,rfl,rfl,hb,cd0,cd1,cd2,cd3,cd4,cd5,cd6,cd7,cd8,cd9,cd10,cd11,cd12,cd13,cd14,cd15,cd16,cd17,cd18,cd19,cd20,cd21,cd22,cd23,cd24,cd25,cd26,cd27,cd28,cd29,cd30,cd31,cd32,cd33,cd34,cd35⟩ hf hd
      have hf' : b12 = false := hf
      subst hf'
      have d10 : b10 = true := hd ⟨10, .data⟩ (by simp) rfl
      subst d10
      have d11 : b11 = true := hd ⟨11, .data⟩ (by simp) rfl
      subst d11
      obtain rfl := cd10.out rfl
      obtain rfl := cd11.out rfl
      clear hf hd
      try simp only [sI, s0, s1]
      intro K hK
      rw [if_pos (by rfl)]
      go_simp
      exact hK.out _ _ ⟨b0, b1, b2, b3, b4, b5, b6, b7, b8, b9, true, true, true, b13, b14, b15, b16, b17, b18, b19, b20, b21, b22, b23, b24, b25, b26, b27, b28, b29, b30, b31, b32, b33, b34, b35, x151, x152, x153, x154, x155, x156, x157, x158, x159, x160, .slice (some al) n c, .int .i64 (i : Nat), (.pointer (some (al.add (i * 32)))), x164, x165, x166, x167, x168, x169, x170, x171, x172, x173, x174, x175, x176, x177, x178, x179, x180, x181, x182, x183, x184, x185, x8, (by simp only [Act.put, sI, s0, s1]), (by simp only [Act.put, sI, s0, s1]), hb, cd0, cd1, cd2, cd3, cd4, cd5, cd6, cd7, cd8, cd9, (fun _ => rfl), (fun _ => rfl), (fun _ => rfl), cd13, cd14, cd15, cd16, cd17, cd18, cd19, cd20, cd21, cd22, cd23, cd24, cd25, cd26, cd27, cd28, cd29, cd30, cd31, cd32, cd33, cd34, cd35⟩
    · rintro L a w ⟨b0,b1,b2,b3,b4,b5,b6,b7,b8,b9,b10,b11,b12,b13,b14,b15,b16,b17,b18,b19,b20,b21,b22,b23,b24,b25,b26,b27,b28,b29,b30,b31,b32,b33,b34,b35,x151,x152,x153,x154,x155,x156,x157,x158,x159,x160,x161,x162,x163,x164,x165,x166,x167,x168,x169,x170,x171,x172,x173,x174,x175,x176,x177,x178,x179,x180,x181,x182,x183,x184,x185,x8,rfl,rfl,hb,cd0,cd1,cd2,cd3,cd4,cd5,cd6,cd7,cd8,cd9,cd10,cd11,cd12,cd13,cd14,cd15,cd16,cd17,cd18,cd19,cd20,cd21,cd22,cd23,cd24,cd25,cd26,cd27,cd28,cd29,cd30,cd31,cd32,cd33,cd34,cd35⟩ hf hd
      have hf' : b13 = false := hf
      subst hf'
      have d12 : b12 = true := hd ⟨12, .data⟩ (by simp) rfl
      subst d12
      obtain rfl := cd12.out rfl
      clear hf hd
      try simp only [sI, s0, s1]
      intro K hK
      rw [if_pos (by rfl)]
      refine wp_load_at 27 _ rfl (al.add (i * 32)) rfl li (tI.past hb) _ _ u24 (hash_size _ hI32) ?_
      exact hK.out _ _ ⟨b0, b1, b2, b3, b4, b5, b6, b7, b8, b9, b10, b11, true, true, b14, b15, b16, b17, b18, b19, b20, b21, b22, b23, b24, b25, b26, b27, b28, b29, b30, b31, b32, b33, b34, b35, x151, x152, x153, x154, x155, x156, x157, x158, x159, x160, x161, x162, .pointer (some (al.add (i * 32))), (.agg (bcs li).toArray), x165, x166, x167, x168, x169, x170, x171, x172, x173, x174, x175, x176, x177, x178, x179, x180, x181, x182, x183, x184, x185, x8, (by simp only [Act.put, sI, s0, s1]), (by simp only [Act.put, sI, s0, s1]), hb, cd0, cd1, cd2, cd3, cd4, cd5, cd6, cd7, cd8, cd9, cd10, cd11, (fun _ => rfl), (fun _ => rfl), cd14, cd15, cd16, cd17, cd18, cd19, cd20, cd21, cd22, cd23, cd24, cd25, cd26, cd27, cd28, cd29, cd30, cd31, cd32, cd33, cd34, cd35⟩
    · rintro L a w ⟨b0,b1,b2,b3,b4,b5,b6,b7,b8,b9,b10,b11,b12,b13,b14,b15,b16,b17,b18,b19,b20,b21,b22,b23,b24,b25,b26,b27,b28,b29,b30,b31,b32,b33,b34,b35,x151,x152,x153,x154,x155,x156,x157,x158,x159,x160,x161,x162,x163,x164,x165,x166,x167,x168,x169,x170,x171,x172,x173,x174,x175,x176,x177,x178,x179,x180,x181,x182,x183,x184,x185,x8,rfl,rfl,hb,cd0,cd1,cd2,cd3,cd4,cd5,cd6,cd7,cd8,cd9,cd10,cd11,cd12,cd13,cd14,cd15,cd16,cd17,cd18,cd19,cd20,cd21,cd22,cd23,cd24,cd25,cd26,cd27,cd28,cd29,cd30,cd31,cd32,cd33,cd34,cd35⟩ hf hd
      have hf' : b14 = false := hf
      subst hf'
      clear hf hd
      try simp only [sI, s0, s1]
      intro K hK
      rw [if_pos (by rfl)]
      go_simp
      exact hK.out _ _ ⟨b0, b1, b2, b3, b4, b5, b6, b7, b8, b9, b10, b11, b12, b13, true, b15, b16, b17, b18, b19, b20, b21, b22, b23, b24, b25, b26, b27, b28, b29, b30, b31, b32, b33, b34, b35, x151, x152, x153, x154, x155, x156, x157, x158, x159, x160, x161, x162, x163, x164, (.int .i64 (i : Nat)), x166, x167, x168, x169, x170, x171, x172, x173, x174, x175, x176, x177, x178, x179, x180, x181, x182, x183, x184, x185, x8, (by simp only [Act.put, sI, s0, s1]), (by simp only [Act.put, sI, s0, s1]), hb, cd0, cd1, cd2, cd3, cd4, cd5, cd6, cd7, cd8, cd9, cd10, cd11, cd12, cd13, (fun _ => rfl), cd15, cd16, cd17, cd18, cd19, cd20, cd21, cd22, cd23, cd24, cd25, cd26, cd27, cd28, cd29, cd30, cd31, cd32, cd33, cd34, cd35⟩
    · rintro L a w ⟨b0,b1,b2,b3,b4,b5,b6,b7,b8,b9,b10,b11,b12,b13,b14,b15,b16,b17,b18,b19,b20,b21,b22,b23,b24,b25,b26,b27,b28,b29,b30,b31,b32,b33,b34,b35,x151,x152,x153,x154,x155,x156,x157,x158,x159,x160,x161,x162,x163,x164,x165,x166,x167,x168,x169,x170,x171,x172,x173,x174,x175,x176,x177,x178,x179,x180,x181,x182,x183,x184,x185,x8,rfl,rfl,hb,cd0,cd1,cd2,cd3,cd4,cd5,cd6,cd7,cd8,cd9,cd10,cd11,cd12,cd13,cd14,cd15,cd16,cd17,cd18,cd19,cd20,cd21,cd22,cd23,cd24,cd25,cd26,cd27,cd28,cd29,cd30,cd31,cd32,cd33,cd34,cd35⟩ hf hd
      have hf' : b15 = false := hf
      subst hf'
      clear hf hd
      try simp only [sI, s0, s1]
      intro K hK
      rw [if_pos (by rfl)]
      go_simp
      exact hK.out _ _ ⟨b0, b1, b2, b3, b4, b5, b6, b7, b8, b9, b10, b11, b12, b13, b14, true, b16, b17, b18, b19, b20, b21, b22, b23, b24, b25, b26, b27, b28, b29, b30, b31, b32, b33, b34, b35, x151, x152, x153, x154, x155, x156, x157, x158, x159, x160, x161, x162, x163, x164, x165, (.int .i64 (n : Nat)), x167, x168, x169, x170, x171, x172, x173, x174, x175, x176, x177, x178, x179, x180, x181, x182, x183, x184, x185, x8, (by simp only [Act.put, sI, s0, s1]), (by simp only [Act.put, sI, s0, s1]), hb, cd0, cd1, cd2, cd3, cd4, cd5, cd6, cd7, cd8, cd9, cd10, cd11, cd12, cd13, cd14, (fun _ => rfl), cd16, cd17, cd18, cd19, cd20, cd21, cd22, cd23, cd24, cd25, cd26, cd27, cd28, cd29, cd30, cd31, cd32, cd33, cd34, cd35⟩
    · rintro L a w ⟨b0,b1,b2,b3,b4,b5,b6,b7,b8,b9,b10,b11,b12,b13,b14,b15,b16,b17,b18,b19,b20,b21,b22,b23,b24,b25,b26,b27,b28,b29,b30,b31,b32,b33,b34,b35,x151,x152,x153,x154,x155,x156,x157,x158,x159,x160,x161,x162,x163,x164,x165,x166,x167,x168,x169,x170,x171,x172,x173,x174,x175,x176,x177,x178,x179,x180,x181,x182,x183,x184,x185,x8,rfl,rfl,hb,cd0,cd1,cd2,cd3,cd4,cd5,cd6,cd7,cd8,cd9,cd10,cd11,cd12,cd13,cd14,cd15,cd16,cd17,cd18,cd19,cd20,cd21,cd22,cd23,cd24,cd25,cd26,cd27,cd28,cd29,cd30,cd31,cd32,cd33,cd34,cd35⟩ hf hd
      have hf' : b16 = false := hf
      subst hf'
      clear hf hd
      try simp only [sI, s0, s1]
      intro K hK
      rw [if_pos (by rfl)]
      go_simp
      exact hK.out _ _ ⟨b0, b1, b2, b3, b4, b5, b6, b7, b8, b9, b10, b11, b12, b13, b14, b15, true, b17, b18, b19, b20, b21, b22, b23, b24, b25, b26, b27, b28, b29, b30, b31, b32, b33, b34, b35, x151, x152, x153, x154, x155, x156, x157, x158, x159, x160, x161, x162, x163, x164, x165, x166, (.slice (some ⟨gq, 0, none⟩) m cq), x168, x169, x170, x171, x172, x173, x174, x175, x176, x177, x178, x179, x180, x181, x182, x183, x184, x185, x8, (by simp only [Act.put, sI, s0, s1]), (by simp only [Act.put, sI, s0, s1]), hb, cd0, cd1, cd2, cd3, cd4, cd5, cd6, cd7, cd8, cd9, cd10, cd11, cd12, cd13, cd14, cd15, (fun _ => rfl), cd17, cd18, cd19, cd20, cd21, cd22, cd23, cd24, cd25, cd26, cd27, cd28, cd29, cd30, cd31, cd32, cd33, cd34, cd35⟩
    · rintro L a w ⟨b0,b1,b2,b3,b4,b5,b6,b7,b8,b9,b10,b11,b12,b13,b14,b15,b16,b17,b18,b19,b20,b21,b22,b23,b24,b25,b26,b27,b28,b29,b30,b31,b32,b33,b34,b35,x151,x152,x153,x154,x155,x156,x157,x158,x159,x160,x161,x162,x163,x164,x165,x166,x167,x168,x169,x170,x171,x172,x173,x174,x175,x176,x177,x178,x179,x180,x181,x182,x183,x184,x185,x8,rfl,rfl,hb,cd0,cd1,cd2,cd3,cd4,cd5,cd6,cd7,cd8,cd9,cd10,cd11,cd12,cd13,cd14,cd15,cd16,cd17,cd18,cd19,cd20,cd21,cd22,cd23,cd24,cd25,cd26,cd27,cd28,cd29,cd30,cd31,cd32,cd33,cd34,cd35⟩ hf hd
      have hf' : b17 = false := hf
      subst hf'
      have d9 : b9 = true := hd ⟨9, .data⟩ (by simp) rfl
      subst d9
      have d13 : b13 = true := hd ⟨13, .data⟩ (by simp) rfl
      subst d13
      have d14 : b14 = true := hd ⟨14, .data⟩ (by simp) rfl
      subst d14
      have d15 : b15 = true := hd ⟨15, .data⟩ (by simp) rfl
      subst d15
      have d16 : b16 = true := hd ⟨16, .data⟩ (by simp) rfl
      subst d16
      have d8 : b8 = true := hd ⟨8, .chain⟩ (by simp) rfl
      subst d8
      obtain rfl := cd9.out rfl
      obtain rfl := cd13.out rfl
      obtain rfl := cd14.out rfl
      obtain rfl := cd15.out rfl
      obtain rfl := cd16.out rfl
      obtain rfl := cd8.out rfl
      clear hf hd
      try simp only [sI, s0, s1]
      intro K hK
      rw [if_pos (by rfl)]
      go_simp
      go_at_call 10
      refine (R7 _ (hQ.past hb)).mono ?_
      rintro e w2 ⟨rfl, bx⟩
      exact hK.out _ _ ⟨b0, b1, b2, b3, b4, b5, b6, b7, true, true, b10, b11, b12, true, true, true, true, true, b18, b19, b20, b21, b22, b23, b24, b25, b26, b27, b28, b29, b30, b31, b32, b33, b34, b35, x151, x152, x153, x154, x155, x156, x157, x158, .bool C3, .agg (bcs r).toArray, x161, x162, x163, .agg (bcs li).toArray, .int .i64 (i : Nat), .int .i64 (n : Nat), .slice (some ⟨gq, 0, none⟩) m cq, (.bool C3), x169, x170, x171, x172, x173, x174, x175, x176, x177, x178, x179, x180, x181, x182, x183, x184, x185, x8, (by simp only [Act.put, sI, s0, s1]), (by simp only [Act.put, sI, s0, s1]), hb.trans (bx.mono hb.size), cd0, cd1, cd2, cd3, cd4, cd5, cd6, cd7, (fun _ => rfl), (fun _ => rfl), cd10, cd11, cd12, (fun _ => rfl), (fun _ => rfl), (fun _ => rfl), (fun _ => rfl), (fun _ => rfl), cd18, cd19, cd20, cd21, cd22, cd23, cd24, cd25, cd26, cd27, cd28, cd29, cd30, cd31, cd32, cd33, cd34, cd35⟩
    · rintro L a w ⟨b0,b1,b2,b3,b4,b5,b6,b7,b8,b9,b10,b11,b12,b13,b14,b15,b16,b17,b18,b19,b20,b21,b22,b23,b24,b25,b26,b27,b28,b29,b30,b31,b32,b33,b34,b35,x151,x152,x153,x154,x155,x156,x157,x158,x159,x160,x161,x162,x163,x164,x165,x166,x167,x168,x169,x170,x171,x172,x173,x174,x175,x176,x177,x178,x179,x180,x181,x182,x183,x184,x185,x8,rfl,rfl,hb,cd0,cd1,cd2,cd3,cd4,cd5,cd6,cd7,cd8,cd9,cd10,cd11,cd12,cd13,cd14,cd15,cd16,cd17,cd18,cd19,cd20,cd21,cd22,cd23,cd24,cd25,cd26,cd27,cd28,cd29,cd30,cd31,cd32,cd33,cd34,cd35⟩ hf hd
      have hf' : b18 = false := hf
      subst hf'
      have d8 : b8 = true := hd ⟨8, .data⟩ (by simp) rfl
      subst d8
      have d17 : b17 = true := hd ⟨17, .data⟩ (by simp) rfl
      subst d17
      obtain rfl := cd8.out rfl
      obtain rfl := cd17.out rfl
      clear hf hd
      try simp only [sI, s0, s1]
      intro K hK
      rw [if_pos (by rfl)]
      go_simp
      exact hK.out _ _ ⟨b0, b1, b2, b3, b4, b5, b6, b7, true, b9, b10, b11, b12, b13, b14, b15, b16, true, true, b19, b20, b21, b22, b23, b24, b25, b26, b27, b28, b29, b30, b31, b32, b33, b34, b35, x151, x152, x153, x154, x155, x156, x157, x158, .bool C3, x160, x161, x162, x163, x164, x165, x166, x167, .bool C3, (.bool true), x170, x171, x172, x173, x174, x175, x176, x177, x178, x179, x180, x181, x182, x183, x184, x185, x8, (by simp only [Act.put, sI, s0, s1]), (by simp only [Act.put, sI, s0, s1]), hb, cd0, cd1, cd2, cd3, cd4, cd5, cd6, cd7, (fun _ => rfl), cd9, cd10, cd11, cd12, cd13, cd14, cd15, cd16, (fun _ => rfl), (fun _ => rfl), cd19, cd20, cd21, cd22, cd23, cd24, cd25, cd26, cd27, cd28, cd29, cd30, cd31, cd32, cd33, cd34, cd35⟩
    · rintro L a w ⟨b0,b1,b2,b3,b4,b5,b6,b7,b8,b9,b10,b11,b12,b13,b14,b15,b16,b17,b18,b19,b20,b21,b22,b23,b24,b25,b26,b27,b28,b29,b30,b31,b32,b33,b34,b35,x151,x152,x153,x154,x155,x156,x157,x158,x159,x160,x161,x162,x163,x164,x165,x166,x167,x168,x169,x170,x171,x172,x173,x174,x175,x176,x177,x178,x179,x180,x181,x182,x183,x184,x185,x8,rfl,rfl,hb,cd0,cd1,cd2,cd3,cd4,cd5,cd6,cd7,cd8,cd9,cd10,cd11,cd12,cd13,cd14,cd15,cd16,cd17,cd18,cd19,cd20,cd21,cd22,cd23,cd24,cd25,cd26,cd27,cd28,cd29,cd30,cd31,cd32,cd33,cd34,cd35⟩ hf hd
      have hf' : b19 = false := hf
      subst hf'
      have d18 : b18 = true := hd ⟨18, .data⟩ (by simp) rfl
      subst d18
      have d17 : b17 = true := hd ⟨17, .chain⟩ (by simp) rfl
      subst d17
      obtain rfl := cd18.out rfl
      obtain rfl := cd17.out rfl
      clear hf hd
      try simp only [sI, s0, s1]
      intro K hK
      rw [if_pos (by rfl)]
      go_simp
      exact hK.out _ _ ⟨b0, b1, b2, b3, b4, b5, b6, b7, b8, b9, b10, b11, b12, b13, b14, b15, b16, true, true, true, b20, b21, b22, b23, b24, b25, b26, b27, b28, b29, b30, b31, b32, b33, b34, b35, x151, x152, x153, x154, x155, x156, x157, x158, x159, x160, x161, x162, x163, x164, x165, x166, x167, .bool C3, .bool true, (.bool true), x171, x172, x173, x174, x175, x176, x177, x178, x179, x180, x181, x182, x183, x184, x185, x8, (by simp only [Act.put, sI, s0, s1]), (by simp only [Act.put, sI, s0, s1]), hb, cd0, cd1, cd2, cd3, cd4, cd5, cd6, cd7, cd8, cd9, cd10, cd11, cd12, cd13, cd14, cd15, cd16, (fun _ => rfl), (fun _ => rfl), (fun _ => rfl), cd20, cd21, cd22, cd23, cd24, cd25, cd26, cd27, cd28, cd29, cd30, cd31, cd32, cd33, cd34, cd35⟩
    · rintro L a w ⟨b0,b1,b2,b3,b4,b5,b6,b7,b8,b9,b10,b11,b12,b13,b14,b15,b16,b17,b18,b19,b20,b21,b22,b23,b24,b25,b26,b27,b28,b29,b30,b31,b32,b33,b34,b35,x151,x152,x153,x154,x155,x156,x157,x158,x159,x160,x161,x162,x163,x164,x165,x166,x167,x168,x169,x170,x171,x172,x173,x174,x175,x176,x177,x178,x179,x180,x181,x182,x183,x184,x185,x8,rfl,rfl,hb,cd0,cd1,cd2,cd3,cd4,cd5,cd6,cd7,cd8,cd9,cd10,cd11,cd12,cd13,cd14,cd15,cd16,cd17,cd18,cd19,cd20,cd21,cd22,cd23,cd24,cd25,cd26,cd27,cd28,cd29,cd30,cd31,cd32,cd33,cd34,cd35⟩ hf hd
      have hf' : b20 = false := hf
      subst hf'
      have d19 : b19 = true := hd ⟨19, .guard⟩ (by simp) rfl
      subst d19
      obtain rfl := cd19.out rfl
      clear hf hd
      try simp only [sI, s0, s1]
      intro K hK
      rw [if_pos (by rfl)]
      refine wp_load_at 27 _ rfl ⟨g, 0, none⟩ rfl r (hg.past hb).at_ _ _ u24 (hash_size _ HR) ?_
      exact hK.out _ _ ⟨b0, b1, b2, b3, b4, b5, b6, b7, b8, b9, b10, b11, b12, b13, b14, b15, b16, b17, b18, true, true, b21, b22, b23, b24, b25, b26, b27, b28, b29, b30, b31, b32, b33, b34, b35, x151, x152, x153, x154, x155, x156, x157, x158, x159, x160, x161, x162, x163, x164, x165, x166, x167, x168, x169, .bool true, (.agg (bcs r).toArray), x172, x173, x174, x175, x176, x177, x178, x179, x180, x181, x182, x183, x184, x185, x8, (by simp only [Act.put, sI, s0, s1]), (by simp only [Act.put, sI, s0, s1]), hb, cd0, cd1, cd2, cd3, cd4, cd5, cd6, cd7, cd8, cd9, cd10, cd11, cd12, cd13, cd14, cd15, cd16, cd17, cd18, (fun _ => rfl), (fun _ => rfl), cd21, cd22, cd23, cd24, cd25, cd26, cd27, cd28, cd29, cd30, cd31, cd32, cd33, cd34, cd35⟩
    · rintro L a w ⟨b0,b1,b2,b3,b4,b5,b6,b7,b8,b9,b10,b11,b12,b13,b14,b15,b16,b17,b18,b19,b20,b21,b22,b23,b24,b25,b26,b27,b28,b29,b30,b31,b32,b33,b34,b35,x151,x152,x153,x154,x155,x156,x157,x158,x159,x160,x161,x162,x163,x164,x165,x166,x167,x168,x169,x170,x171,x172,x173,x174,x175,x176,x177,x178,x179,x180,x181,x182,x183,x184,x185,x8,rfl,rfl,hb,cd0,cd1,cd2,cd3,cd4,cd5,cd6,cd7,cd8,cd9,cd10,cd11,cd12,cd13,cd14,cd15,cd16,cd17,cd18,cd19,cd20,cd21,cd22,cd23,cd24,cd25,cd26,cd27,cd28,cd29,cd30,cd31,cd32,cd33,cd34,cd35⟩ hf hd
      have hf' : b21 = false := hf
      subst hf'
      have d19 : b19 = true := hd ⟨19, .guard⟩ (by simp) rfl
      subst d19
      obtain rfl := cd19.out rfl
      clear hf hd
      try simp only [sI, s0, s1]
      intro K hK
      rw [if_pos (by rfl)]
      go_simp
      exact hK.out _ _ ⟨b0, b1, b2, b3, b4, b5, b6, b7, b8, b9, b10, b11, b12, b13, b14, b15, b16, b17, b18, true, b20, true, b22, b23, b24, b25, b26, b27, b28, b29, b30, b31, b32, b33, b34, b35, x151, x152, x153, x154, x155, x156, x157, x158, x159, x160, x161, x162, x163, x164, x165, x166, x167, x168, x169, .bool true, x171, (.slice (some al) n c), x173, x174, x175, x176, x177, x178, x179, x180, x181, x182, x183, x184, x185, x8, (by simp only [Act.put, sI, s0, s1]), (by simp only [Act.put, sI, s0, s1]), hb, cd0, cd1, cd2, cd3, cd4, cd5, cd6, cd7, cd8, cd9, cd10, cd11, cd12, cd13, cd14, cd15, cd16, cd17, cd18, (fun _ => rfl), cd20, (fun _ => rfl), cd22, cd23, cd24, cd25, cd26, cd27, cd28, cd29, cd30, cd31, cd32, cd33, cd34, cd35⟩
    · rintro L a w ⟨b0,b1,b2,b3,b4,b5,b6,b7,b8,b9,b10,b11,b12,b13,b14,b15,b16,b17,b18,b19,b20,b21,b22,b23,b24,b25,b26,b27,b28,b29,b30,b31,b32,b33,b34,b35,x151,x152,x153,x154,x155,x156,x157,x158,x159,x160,x161,x162,x163,x164,x165,x166,x167,x168,x169,x170,x171,x172,x173,x174,x175,x176,x177,x178,x179,x180,x181,x182,x183,x184,x185,x8,rfl,rfl,hb,cd0,cd1,cd2,cd3,cd4,cd5,cd6,cd7,cd8,cd9,cd10,cd11,cd12,cd13,cd14,cd15,cd16,cd17,cd18,cd19,cd20,cd21,cd22,cd23,cd24,cd25,cd26,cd27,cd28,cd29,cd30,cd31,cd32,cd33,cd34,cd35⟩ hf hd
      have hf' : b22 = false := hf
      subst hf'
      have d19 : b19 = true := hd ⟨19, .guard⟩ (by simp) rfl
      subst d19
      obtain rfl := cd19.out rfl
      clear hf hd
      try simp only [sI, s0, s1]
      intro K hK
      rw [if_pos (by rfl)]
      go_simp
      exact hK.out _ _ ⟨b0, b1, b2, b3, b4, b5, b6, b7, b8, b9, b10, b11, b12, b13, b14, b15, b16, b17, b18, true, b20, b21, true, b23, b24, b25, b26, b27, b28, b29, b30, b31, b32, b33, b34, b35, x151, x152, x153, x154, x155, x156, x157, x158, x159, x160, x161, x162, x163, x164, x165, x166, x167, x168, x169, .bool true, x171, x172, (.int .i64 (i : Nat)), x174, x175, x176, x177, x178, x179, x180, x181, x182, x183, x184, x185, x8, (by simp only [Act.put, sI, s0, s1]), (by simp only [Act.put, sI, s0, s1]), hb, cd0, cd1, cd2, cd3, cd4, cd5, cd6, cd7, cd8, cd9, cd10, cd11, cd12, cd13, cd14, cd15, cd16, cd17, cd18, (fun _ => rfl), cd20, cd21, (fun _ => rfl), cd23, cd24, cd25, cd26, cd27, cd28, cd29, cd30, cd31, cd32, cd33, cd34, cd35⟩
    · rintro L a w ⟨b0,b1,b2,b3,b4,b5,b6,b7,b8,b9,b10,b11,b12,b13,b14,b15,b16,b17,b18,b19,b20,b21,b22,b23,b24,b25,b26,b27,b28,b29,b30,b31,b32,b33,b34,b35,x151,x152,x153,x154,x155,x156,x157,x158,x159,x160,x161,x162,x163,x164,x165,x166,x167,x168,x169,x170,x171,x172,x173,x174,x175,x176,x177,x178,x179,x180,x181,x182,x183,x184,x185,x8,rfl,rfl,hb,cd0,cd1,cd2,cd3,cd4,cd5,cd6,cd7,cd8,cd9,cd10,cd11,cd12,cd13,cd14,cd15,cd16,cd17,cd18,cd19,cd20,cd21,cd22,cd23,cd24,cd25,cd26,cd27,cd28,cd29,cd30,cd31,cd32,cd33,cd34,cd35⟩ hf hd
      have hf' : b23 = false := hf
      subst hf'
      have d21 : b21 = true := hd ⟨21, .data⟩ (by simp) rfl
      subst d21
      have d22 : b22 = true := hd ⟨22, .data⟩ (by simp) rfl
      subst d22
      have d19 : b19 = true := hd ⟨19, .guard⟩ (by simp) rfl
      subst d19
      obtain rfl := cd21.out rfl
      obtain rfl := cd22.out rfl
      obtain rfl := cd19.out rfl
      clear hf hd
      try simp only [sI, s0, s1]
      intro K hK
      rw [if_pos (by rfl)]
      go_simp
      exact hK.out _ _ ⟨b0, b1, b2, b3, b4, b5, b6, b7, b8, b9, b10, b11, b12, b13, b14, b15, b16, b17, b18, true, b20, true, true, true, b24, b25, b26, b27, b28, b29, b30, b31, b32, b33, b34, b35, x151, x152, x153, x154, x155, x156, x157, x158, x159, x160, x161, x162, x163, x164, x165, x166, x167, x168, x169, .bool true, x171, .slice (some al) n c, .int .i64 (i : Nat), (.pointer (some (al.add (i * 32)))), x175, x176, x177, x178, x179, x180, x181, x182, x183, x184, x185, x8, (by simp only [Act.put, sI, s0, s1]), (by simp only [Act.put, sI, s0, s1]), hb, cd0, cd1, cd2, cd3, cd4, cd5, cd6, cd7, cd8, cd9, cd10, cd11, cd12, cd13, cd14, cd15, cd16, cd17, cd18, (fun _ => rfl), cd20, (fun _ => rfl), (fun _ => rfl), (fun _ => rfl), cd24, cd25, cd26, cd27, cd28, cd29, cd30, cd31, cd32, cd33, cd34, cd35⟩
    · rintro L a w ⟨b0,b1,b2,b3,b4,b5,b6,b7,b8,b9,b10,b11,b12,b13,b14,b15,b16,b17,b18,b19,b20,b21,b22,b23,b24,b25,b26,b27,b28,b29,b30,b31,b32,b33,b34,b35,x151,x152,x153,x154,x155,x156,x157,x158,x159,x160,x161,x162,x163,x164,x165,x166,x167,x168,x169,x170,x171,x172,x173,x174,x175,x176,x177,x178,x179,x180,x181,x182,x183,x184,x185,x8,rfl,rfl,hb,cd0,cd1,cd2,cd3,cd4,cd5,cd6,cd7,cd8,cd9,cd10,cd11,cd12,cd13,cd14,cd15,cd16,cd17,cd18,cd19,cd20,cd21,cd22,cd23,cd24,cd25,cd26,cd27,cd28,cd29,cd30,cd31,cd32,cd33,cd34,cd35⟩ hf hd
      have hf' : b24 = false := hf
      subst hf'
      have d23 : b23 = true := hd ⟨23, .data⟩ (by simp) rfl
      subst d23
      have d19 : b19 = true := hd ⟨19, .guard⟩ (by simp) rfl
      subst d19
      obtain rfl := cd23.out rfl
      obtain rfl := cd19.out rfl
      clear hf hd
      try simp only [sI, s0, s1]
      intro K hK
      rw [if_pos (by rfl)]
      refine wp_load_at 27 _ rfl (al.add (i * 32)) rfl li (tI.past hb) _ _ u24 (hash_size _ hI32) ?_
      exact hK.out _ _ ⟨b0, b1, b2, b3, b4, b5, b6, b7, b8, b9, b10, b11, b12, b13, b14, b15, b16, b17, b18, true, b20, b21, b22, true, true, b25, b26, b27, b28, b29, b30, b31, b32, b33, b34, b35, x151, x152, x153, x154, x155, x156, x157, x158, x159, x160, x161, x162, x163, x164, x165, x166, x167, x168, x169, .bool true, x171, x172, x173, .pointer (some (al.add (i * 32))), (.agg (bcs li).toArray), x176, x177, x178, x179, x180, x181, x182, x183, x184, x185, x8, (by simp only [Act.put, sI, s0, s1]), (by simp only [Act.put, sI, s0, s1]), hb, cd0, cd1, cd2, cd3, cd4, cd5, cd6, cd7, cd8, cd9, cd10, cd11, cd12, cd13, cd14, cd15, cd16, cd17, cd18, (fun _ => rfl), cd20, cd21, cd22, (fun _ => rfl), (fun _ => rfl), cd25, cd26, cd27, cd28, cd29, cd30, cd31, cd32, cd33, cd34, cd35⟩
    · rintro L a w ⟨b0,b1,b2,b3,b4,b5,b6,b7,b8,b9,b10,b11,b12,b13,b14,b15,b16,b17,b18,b19,b20,b21,b22,b23,b24,b25,b26,b27,b28,b29,b30,b31,b32,b33,b34,b35,x151,x152,x153,x154,x155,x156,x157,x158,x159,x160,x161,x162,x163,x164,x165,x166,x167,x168,x169,x170,x171,x172,x173,x174,x175,x176,x177,x178,x179,x180,x181,x182,x183,x184,x185,x8,rfl,rfl,hb,cd0,cd1,cd2,cd3,cd4,cd5,cd6,cd7,cd8,cd9,cd10,cd11,cd12,cd13,cd14,cd15,cd16,cd17,cd18,cd19,cd20,cd21,cd22,cd23,cd24,cd25,cd26,cd27,cd28,cd29,cd30,cd31,cd32,cd33,cd34,cd35⟩ hf hd
      have hf' : b25 = false := hf
      subst hf'
      have d19 : b19 = true := hd ⟨19, .guard⟩ (by simp) rfl
      subst d19
      obtain rfl := cd19.out rfl
      clear hf hd
      try simp only [sI, s0, s1]
      intro K hK
      rw [if_pos (by rfl)]
      go_simp
      exact hK.out _ _ ⟨b0, b1, b2, b3, b4, b5, b6, b7, b8, b9, b10, b11, b12, b13, b14, b15, b16, b17, b18, true, b20, b21, b22, b23, b24, true, b26, b27, b28, b29, b30, b31, b32, b33, b34, b35, x151, x152, x153, x154, x155, x156, x157, x158, x159, x160, x161, x162, x163, x164, x165, x166, x167, x168, x169, .bool true, x171, x172, x173, x174, x175, (.int .i64 (i : Nat)), x177, x178, x179, x180, x181, x182, x183, x184, x185, x8, (by simp only [Act.put, sI, s0, s1]), (by simp only [Act.put, sI, s0, s1]), hb, cd0, cd1, cd2, cd3, cd4, cd5, cd6, cd7, cd8, cd9, cd10, cd11, cd12, cd13, cd14, cd15, cd16, cd17, cd18, (fun _ => rfl), cd20, cd21, cd22, cd23, cd24, (fun _ => rfl), cd26, cd27, cd28, cd29, cd30, cd31, cd32, cd33, cd34, cd35⟩
    · rintro L a w ⟨b0,b1,b2,b3,b4,b5,b6,b7,b8,b9,b10,b11,b12,b13,b14,b15,b16,b17,b18,b19,b20,b21,b22,b23,b24,b25,b26,b27,b28,b29,b30,b31,b32,b33,b34,b35,x151,x152,x153,x154,x155,x156,x157,x158,x159,x160,x161,x162,x163,x164,x165,x166,x167,x168,x169,x170,x171,x172,x173,x174,x175,x176,x177,x178,x179,x180,x181,x182,x183,x184,x185,x8,rfl,rfl,hb,cd0,cd1,cd2,cd3,cd4,cd5,cd6,cd7,cd8,cd9,cd10,cd11,cd12,cd13,cd14,cd15,cd16,cd17,cd18,cd19,cd20,cd21,cd22,cd23,cd24,cd25,cd26,cd27,cd28,cd29,cd30,cd31,cd32,cd33,cd34,cd35⟩ hf hd
      have hf' : b26 = false := hf
      subst hf'
      have d19 : b19 = true := hd ⟨19, .guard⟩ (by simp) rfl
      subst d19
      obtain rfl := cd19.out rfl
      clear hf hd
      try simp only [sI, s0, s1]
      intro K hK
      rw [if_pos (by rfl)]
      go_simp
      exact hK.out _ _ ⟨b0, b1, b2, b3, b4, b5, b6, b7, b8, b9, b10, b11, b12, b13, b14, b15, b16, b17, b18, true, b20, b21, b22, b23, b24, b25, true, b27, b28, b29, b30, b31, b32, b33, b34, b35, x151, x152, x153, x154, x155, x156, x157, x158, x159, x160, x161, x162, x163, x164, x165, x166, x167, x168, x169, .bool true, x171, x172, x173, x174, x175, x176, (.int .i64 (n : Nat)), x178, x179, x180, x181, x182, x183, x184, x185, x8, (by simp only [Act.put, sI, s0, s1]), (by simp only [Act.put, sI, s0, s1]), hb, cd0, cd1, cd2, cd3, cd4, cd5, cd6, cd7, cd8, cd9, cd10, cd11, cd12, cd13, cd14, cd15, cd16, cd17, cd18, (fun _ => rfl), cd20, cd21, cd22, cd23, cd24, cd25, (fun _ => rfl), cd27, cd28, cd29, cd30, cd31, cd32, cd33, cd34, cd35⟩
    · rintro L a w ⟨b0,b1,b2,b3,b4,b5,b6,b7,b8,b9,b10,b11,b12,b13,b14,b15,b16,b17,b18,b19,b20,b21,b22,b23,b24,b25,b26,b27,b28,b29,b30,b31,b32,b33,b34,b35,x151,x152,x153,x154,x155,x156,x157,x158,x159,x160,x161,x162,x163,x164,x165,x166,x167,x168,x169,x170,x171,x172,x173,x174,x175,x176,x177,x178,x179,x180,x181,x182,x183,x184,x185,x8,rfl,rfl,hb,cd0,cd1,cd2,cd3,cd4,cd5,cd6,cd7,cd8,cd9,cd10,cd11,cd12,cd13,cd14,cd15,cd16,cd17,cd18,cd19,cd20,cd21,cd22,cd23,cd24,cd25,cd26,cd27,cd28,cd29,cd30,cd31,cd32,cd33,cd34,cd35⟩ hf hd
      have hf' : b27 = false := hf
      subst hf'
      have d19 : b19 = true := hd ⟨19, .guard⟩ (by simp) rfl
      subst d19
      obtain rfl := cd19.out rfl
      clear hf hd
      try simp only [sI, s0, s1]
      intro K hK
      rw [if_pos (by rfl)]
      go_simp
      exact hK.out _ _ ⟨b0, b1, b2, b3, b4, b5, b6, b7, b8, b9, b10, b11, b12, b13, b14, b15, b16, b17, b18, true, b20, b21, b22, b23, b24, b25, b26, true, b28, b29, b30, b31, b32, b33, b34, b35, x151, x152, x153, x154, x155, x156, x157, x158, x159, x160, x161, x162, x163, x164, x165, x166, x167, x168, x169, .bool true, x171, x172, x173, x174, x175, x176, x177, (.slice ap m cp), x179, x180, x181, x182, x183, x184, x185, x8, (by simp only [Act.put, sI, s0, s1]), (by simp only [Act.put, sI, s0, s1]), hb, cd0, cd1, cd2, cd3, cd4, cd5, cd6, cd7, cd8, cd9, cd10, cd11, cd12, cd13, cd14, cd15, cd16, cd17, cd18, (fun _ => rfl), cd20, cd21, cd22, cd23, cd24, cd25, cd26, (fun _ => rfl), cd28, cd29, cd30, cd31, cd32, cd33, cd34, cd35⟩
    · rintro L a w ⟨b0,b1,b2,b3,b4,b5,b6,b7,b8,b9,b10,b11,b12,b13,b14,b15,b16,b17,b18,b19,b20,b21,b22,b23,b24,b25,b26,b27,b28,b29,b30,b31,b32,b33,b34,b35,x151,x152,x153,x154,x155,x156,x157,x158,x159,x160,x161,x162,x163,x164,x165,x166,x167,x168,x169,x170,x171,x172,x173,x174,x175,x176,x177,x178,x179,x180,x181,x182,x183,x184,x185,x8,rfl,rfl,hb,cd0,cd1,cd2,cd3,cd4,cd5,cd6,cd7,cd8,cd9,cd10,cd11,cd12,cd13,cd14,cd15,cd16,cd17,cd18,cd19,cd20,cd21,cd22,cd23,cd24,cd25,cd26,cd27,cd28,cd29,cd30,cd31,cd32,cd33,cd34,cd35⟩ hf hd
      have hf' : b28 = false := hf
      subst hf'
      have d19 : b19 = true := hd ⟨19, .guard⟩ (by simp) rfl
      subst d19
      obtain rfl := cd19.out rfl
      clear hf hd
      try simp only [sI, s0, s1]
      intro K hK
      rw [if_pos (by rfl)]
      go_simp
      exact hK.out _ _ ⟨b0, b1, b2, b3, b4, b5, b6, b7, b8, b9, b10, b11, b12, b13, b14, b15, b16, b17, b18, true, b20, b21, b22, b23, b24, b25, b26, b27, true, b29, b30, b31, b32, b33, b34, b35, x151, x152, x153, x154, x155, x156, x157, x158, x159, x160, x161, x162, x163, x164, x165, x166, x167, x168, x169, .bool true, x171, x172, x173, x174, x175, x176, x177, x178, (.slice ap m cp), x180, x181, x182, x183, x184, x185, x8, (by simp only [Act.put, sI, s0, s1]), (by simp only [Act.put, sI, s0, s1]), hb, cd0, cd1, cd2, cd3, cd4, cd5, cd6, cd7, cd8, cd9, cd10, cd11, cd12, cd13, cd14, cd15, cd16, cd17, cd18, (fun _ => rfl), cd20, cd21, cd22, cd23, cd24, cd25, cd26, cd27, (fun _ => rfl), cd29, cd30, cd31, cd32, cd33, cd34, cd35⟩
    · rintro L a w ⟨b0,b1,b2,b3,b4,b5,b6,b7,b8,b9,b10,b11,b12,b13,b14,b15,b16,b17,b18,b19,b20,b21,b22,b23,b24,b25,b26,b27,b28,b29,b30,b31,b32,b33,b34,b35,x151,x152,x153,x154,x155,x156,x157,x158,x159,x160,x161,x162,x163,x164,x165,x166,x167,x168,x169,x170,x171,x172,x173,x174,x175,x176,x177,x178,x179,x180,x181,x182,x183,x184,x185,x8,rfl,rfl,hb,cd0,cd1,cd2,cd3,cd4,cd5,cd6,cd7,cd8,cd9,cd10,cd11,cd12,cd13,cd14,cd15,cd16,cd17,cd18,cd19,cd20,cd21,cd22,cd23,cd24,cd25,cd26,cd27,cd28,cd29,cd30,cd31,cd32,cd33,cd34,cd35⟩ hf hd
      have hf' : b29 = false := hf
      subst hf'
      have d28 : b28 = true := hd ⟨28, .data⟩ (by simp) rfl
      subst d28
      have d19 : b19 = true := hd ⟨19, .guard⟩ (by simp) rfl
      subst d19
      obtain rfl := cd28.out rfl
      obtain rfl := cd19.out rfl
      clear hf hd
      try simp only [sI, s0, s1]
      intro K hK
      rw [if_pos (by rfl)]
      go_simp
      exact hK.out _ _ ⟨b0, b1, b2, b3, b4, b5, b6, b7, b8, b9, b10, b11, b12, b13, b14, b15, b16, b17, b18, true, b20, b21, b22, b23, b24, b25, b26, b27, true, true, b30, b31, b32, b33, b34, b35, x151, x152, x153, x154, x155, x156, x157, x158, x159, x160, x161, x162, x163, x164, x165, x166, x167, x168, x169, .bool true, x171, x172, x173, x174, x175, x176, x177, x178, .slice ap m cp, (.int .i64 (m : Nat)), x181, x182, x183, x184, x185, x8, (by simp only [Act.put, sI, s0, s1]), (by simp only [Act.put, sI, s0, s1]), hb, cd0, cd1, cd2, cd3, cd4, cd5, cd6, cd7, cd8, cd9, cd10, cd11, cd12, cd13, cd14, cd15, cd16, cd17, cd18, (fun _ => rfl), cd20, cd21, cd22, cd23, cd24, cd25, cd26, cd27, (fun _ => rfl), (fun _ => rfl), cd30, cd31, cd32, cd33, cd34, cd35⟩
    · rintro L a w ⟨b0,b1,b2,b3,b4,b5,b6,b7,b8,b9,b10,b11,b12,b13,b14,b15,b16,b17,b18,b19,b20,b21,b22,b23,b24,b25,b26,b27,b28,b29,b30,b31,b32,b33,b34,b35,x151,x152,x153,x154,x155,x156,x157,x158,x159,x160,x161,x162,x163,x164,x165,x166,x167,x168,x169,x170,x171,x172,x173,x174,x175,x176,x177,x178,x179,x180,x181,x182,x183,x184,x185,x8,rfl,rfl,hb,cd0,cd1,cd2,cd3,cd4,cd5,cd6,cd7,cd8,cd9,cd10,cd11,cd12,cd13,cd14,cd15,cd16,cd17,cd18,cd19,cd20,cd21,cd22,cd23,cd24,cd25,cd26,cd27,cd28,cd29,cd30,cd31,cd32,cd33,cd34,cd35⟩ hf hd
      have hf' : b30 = false := hf
      subst hf'
      have d29 : b29 = true := hd ⟨29, .data⟩ (by simp) rfl
      subst d29
      have d19 : b19 = true := hd ⟨19, .guard⟩ (by simp) rfl
      subst d19
      obtain rfl := cd29.out rfl
      obtain rfl := cd19.out rfl
      clear hf hd
      try simp only [sI, s0, s1]
      have ew := IntWalk.i64_in ((m : Int) - 1) (by omega)
      have ew3 := IntWalk.wrap64_in ((m : Int) - 1) (by omega)
      intro K hK
      rw [if_pos (by rfl)]
      go_simp
      exact hK.out _ _ ⟨b0, b1, b2, b3, b4, b5, b6, b7, b8, b9, b10, b11, b12, b13, b14, b15, b16, b17, b18, true, b20, b21, b22, b23, b24, b25, b26, b27, b28, true, true, b31, b32, b33, b34, b35, x151, x152, x153, x154, x155, x156, x157, x158, x159, x160, x161, x162, x163, x164, x165, x166, x167, x168, x169, .bool true, x171, x172, x173, x174, x175, x176, x177, x178, x179, .int .i64 (m : Nat), (.int .i64 ((m : Int) - 1)), x182, x183, x184, x185, x8, (by simp only [Act.put, sI, s0, s1]), (by simp only [Act.put, sI, s0, s1]), hb, cd0, cd1, cd2, cd3, cd4, cd5, cd6, cd7, cd8, cd9, cd10, cd11, cd12, cd13, cd14, cd15, cd16, cd17, cd18, (fun _ => rfl), cd20, cd21, cd22, cd23, cd24, cd25, cd26, cd27, cd28, (fun _ => rfl), (fun _ => rfl), cd31, cd32, cd33, cd34, cd35⟩
    · rintro L a w ⟨b0,b1,b2,b3,b4,b5,b6,b7,b8,b9,b10,b11,b12,b13,b14,b15,b16,b17,b18,b19,b20,b21,b22,b23,b24,b25,b26,b27,b28,b29,b30,b31,b32,b33,b34,b35,x151,x152,x153,x154,x155,x156,x157,x158,x159,x160,x161,x162,x163,x164,x165,x166,x167,x168,x169,x170,x171,x172,x173,x174,x175,x176,x177,x178,x179,x180,x181,x182,x183,x184,x185,x8,rfl,rfl,hb,cd0,cd1,cd2,cd3,cd4,cd5,cd6,cd7,cd8,cd9,cd10,cd11,cd12,cd13,cd14,cd15,cd16,cd17,cd18,cd19,cd20,cd21,cd22,cd23,cd24,cd25,cd26,cd27,cd28,cd29,cd30,cd31,cd32,cd33,cd34,cd35⟩ hf hd
      have hf' : b31 = false := hf
      subst hf'
      have d27 : b27 = true := hd ⟨27, .data⟩ (by simp) rfl
      subst d27
      have d30 : b30 = true := hd ⟨30, .data⟩ (by simp) rfl
      subst d30
      have d19 : b19 = true := hd ⟨19, .guard⟩ (by simp) rfl
      subst d19
      obtain rfl := cd27.out rfl
      obtain rfl := cd30.out rfl
      obtain rfl := cd19.out rfl
      clear hf hd
      try simp only [sI, s0, s1]
      intro K hK
      rw [if_pos (by rfl)]
      refine wp_slice_h 24 Tryd.underlying24 _ _ rfl (.slice ap m cp) rfl _ (by first | rfl | (simp; done)) (.slice ah (m - 1) cp) (fun w' => runH w') ?_
      exact hK.out _ _ ⟨b0, b1, b2, b3, b4, b5, b6, b7, b8, b9, b10, b11, b12, b13, b14, b15, b16, b17, b18, true, b20, b21, b22, b23, b24, b25, b26, true, b28, b29, true, true, b32, b33, b34, b35, x151, x152, x153, x154, x155, x156, x157, x158, x159, x160, x161, x162, x163, x164, x165, x166, x167, x168, x169, .bool true, x171, x172, x173, x174, x175, x176, x177, .slice ap m cp, x179, x180, .int .i64 ((m : Int) - 1), (.slice ah (m - 1) cp), x183, x184, x185, x8, (by simp only [Act.put, sI, s0, s1]), (by simp only [Act.put, sI, s0, s1]), hb, cd0, cd1, cd2, cd3, cd4, cd5, cd6, cd7, cd8, cd9, cd10, cd11, cd12, cd13, cd14, cd15, cd16, cd17, cd18, (fun _ => rfl), cd20, cd21, cd22, cd23, cd24, cd25, cd26, (fun _ => rfl), cd28, cd29, (fun _ => rfl), (fun _ => rfl), cd32, cd33, cd34, cd35⟩
    · rintro L a w ⟨b0,b1,b2,b3,b4,b5,b6,b7,b8,b9,b10,b11,b12,b13,b14,b15,b16,b17,b18,b19,b20,b21,b22,b23,b24,b25,b26,b27,b28,b29,b30,b31,b32,b33,b34,b35,x151,x152,x153,x154,x155,x156,x157,x158,x159,x160,x161,x162,x163,x164,x165,x166,x167,x168,x169,x170,x171,x172,x173,x174,x175,x176,x177,x178,x179,x180,x181,x182,x183,x184,x185,x8,rfl,rfl,hb,cd0,cd1,cd2,cd3,cd4,cd5,cd6,cd7,cd8,cd9,cd10,cd11,cd12,cd13,cd14,cd15,cd16,cd17,cd18,cd19,cd20,cd21,cd22,cd23,cd24,cd25,cd26,cd27,cd28,cd29,cd30,cd31,cd32,cd33,cd34,cd35⟩ hf hd
      have hf' : b32 = false := hf
      subst hf'
      have d20 : b20 = true := hd ⟨20, .data⟩ (by simp) rfl
      subst d20
      have d24 : b24 = true := hd ⟨24, .data⟩ (by simp) rfl
      subst d24
      have d25 : b25 = true := hd ⟨25, .data⟩ (by simp) rfl
      subst d25
      have d26 : b26 = true := hd ⟨26, .data⟩ (by simp) rfl
      subst d26
      have d31 : b31 = true := hd ⟨31, .data⟩ (by simp) rfl
      subst d31
      have d19 : b19 = true := hd ⟨19, .chain⟩ (by simp) rfl
      subst d19
      obtain rfl := cd20.out rfl
      obtain rfl := cd24.out rfl
      obtain rfl := cd25.out rfl
      obtain rfl := cd26.out rfl
      obtain rfl := cd31.out rfl
      obtain rfl := cd19.out rfl
      clear hf hd
      try simp only [sI, s0, s1]
      intro K hK
      rw [if_pos (by rfl)]
      go_simp
      go_at_call 9
      refine (M8 _ (hC.past hb) (hH.past hb)).mono ?_
      rintro e w2 ⟨rfl, bx⟩
      exact hK.out _ _ ⟨b0, b1, b2, b3, b4, b5, b6, b7, b8, b9, b10, b11, b12, b13, b14, b15, b16, b17, b18, true, true, b21, b22, b23, true, true, true, b27, b28, b29, b30, true, true, b33, b34, b35, x151, x152, x153, x154, x155, x156, x157, x158, x159, x160, x161, x162, x163, x164, x165, x166, x167, x168, x169, .bool true, .agg (bcs r).toArray, x172, x173, x174, .agg (bcs li).toArray, .int .i64 (i : Nat), .int .i64 (n : Nat), x178, x179, x180, x181, .slice ah (m - 1) cp, (.bool false), x184, x185, x8, (by simp only [Act.put, sI, s0, s1]), (by simp only [Act.put, sI, s0, s1]), hb.trans (bx.mono hb.size), cd0, cd1, cd2, cd3, cd4, cd5, cd6, cd7, cd8, cd9, cd10, cd11, cd12, cd13, cd14, cd15, cd16, cd17, cd18, (fun _ => rfl), (fun _ => rfl), cd21, cd22, cd23, (fun _ => rfl), (fun _ => rfl), (fun _ => rfl), cd27, cd28, cd29, cd30, (fun _ => rfl), (fun _ => rfl), cd33, cd34, cd35⟩
    · rintro L a w ⟨b0,b1,b2,b3,b4,b5,b6,b7,b8,b9,b10,b11,b12,b13,b14,b15,b16,b17,b18,b19,b20,b21,b22,b23,b24,b25,b26,b27,b28,b29,b30,b31,b32,b33,b34,b35,x151,x152,x153,x154,x155,x156,x157,x158,x159,x160,x161,x162,x163,x164,x165,x166,x167,x168,x169,x170,x171,x172,x173,x174,x175,x176,x177,x178,x179,x180,x181,x182,x183,x184,x185,x8,rfl,rfl,hb,cd0,cd1,cd2,cd3,cd4,cd5,cd6,cd7,cd8,cd9,cd10,cd11,cd12,cd13,cd14,cd15,cd16,cd17,cd18,cd19,cd20,cd21,cd22,cd23,cd24,cd25,cd26,cd27,cd28,cd29,cd30,cd31,cd32,cd33,cd34,cd35⟩ hf hd
      have hf' : b33 = false := hf
      subst hf'
      have d32 : b32 = true := hd ⟨32, .data⟩ (by simp) rfl
      subst d32
      have d19 : b19 = true := hd ⟨19, .guard⟩ (by simp) rfl
      subst d19
      obtain rfl := cd32.out rfl
      obtain rfl := cd19.out rfl
      clear hf hd
      try simp only [sI, s0, s1]
      intro K hK
      rw [if_pos (by rfl)]
      go_simp
      exact hK.out _ _ ⟨b0, b1, b2, b3, b4, b5, b6, b7, b8, b9, b10, b11, b12, b13, b14, b15, b16, b17, b18, true, b20, b21, b22, b23, b24, b25, b26, b27, b28, b29, b30, b31, true, true, b34, b35, x151, x152, x153, x154, x155, x156, x157, x158, x159, x160, x161, x162, x163, x164, x165, x166, x167, x168, x169, .bool true, x171, x172, x173, x174, x175, x176, x177, x178, x179, x180, x181, x182, .bool false, (.bool true), x185, x8, (by simp only [Act.put, sI, s0, s1]), (by simp only [Act.put, sI, s0, s1]), hb, cd0, cd1, cd2, cd3, cd4, cd5, cd6, cd7, cd8, cd9, cd10, cd11, cd12, cd13, cd14, cd15, cd16, cd17, cd18, (fun _ => rfl), cd20, cd21, cd22, cd23, cd24, cd25, cd26, cd27, cd28, cd29, cd30, cd31, (fun _ => rfl), (fun _ => rfl), cd34, cd35⟩
    · rintro L a w ⟨b0,b1,b2,b3,b4,b5,b6,b7,b8,b9,b10,b11,b12,b13,b14,b15,b16,b17,b18,b19,b20,b21,b22,b23,b24,b25,b26,b27,b28,b29,b30,b31,b32,b33,b34,b35,x151,x152,x153,x154,x155,x156,x157,x158,x159,x160,x161,x162,x163,x164,x165,x166,x167,x168,x169,x170,x171,x172,x173,x174,x175,x176,x177,x178,x179,x180,x181,x182,x183,x184,x185,x8,rfl,rfl,hb,cd0,cd1,cd2,cd3,cd4,cd5,cd6,cd7,cd8,cd9,cd10,cd11,cd12,cd13,cd14,cd15,cd16,cd17,cd18,cd19,cd20,cd21,cd22,cd23,cd24,cd25,cd26,cd27,cd28,cd29,cd30,cd31,cd32,cd33,cd34,cd35⟩ hf hd
      have hf' : b34 = false := hf
      subst hf'
      have d19 : b19 = true := hd ⟨19, .data⟩ (by simp) rfl
      subst d19
      have d33 : b33 = true := hd ⟨33, .data⟩ (by simp) rfl
      subst d33
      obtain rfl := cd19.out rfl
      obtain rfl := cd33.out rfl
      clear hf hd
      try simp only [sI, s0, s1]
      intro K hK
      rw [if_pos (by rfl)]
      go_simp
      exact hK.out _ _ ⟨b0, b1, b2, b3, b4, b5, b6, b7, b8, b9, b10, b11, b12, b13, b14, b15, b16, b17, b18, true, b20, b21, b22, b23, b24, b25, b26, b27, b28, b29, b30, b31, b32, true, true, b35, x151, x152, x153, x154, x155, x156, x157, x158, x159, x160, x161, x162, x163, x164, x165, x166, x167, x168, x169, .bool true, x171, x172, x173, x174, x175, x176, x177, x178, x179, x180, x181, x182, x183, .bool true, (.bool true), x8, (by simp only [Act.put, sI, s0, s1]), (by simp only [Act.put, sI, s0, s1]), hb, cd0, cd1, cd2, cd3, cd4, cd5, cd6, cd7, cd8, cd9, cd10, cd11, cd12, cd13, cd14, cd15, cd16, cd17, cd18, (fun _ => rfl), cd20, cd21, cd22, cd23, cd24, cd25, cd26, cd27, cd28, cd29, cd30, cd31, cd32, (fun _ => rfl), (fun _ => rfl), cd35⟩
    · rintro L a w ⟨b0,b1,b2,b3,b4,b5,b6,b7,b8,b9,b10,b11,b12,b13,b14,b15,b16,b17,b18,b19,b20,b21,b22,b23,b24,b25,b26,b27,b28,b29,b30,b31,b32,b33,b34,b35,x151,x152,x153,x154,x155,x156,x157,x158,x159,x160,x161,x162,x163,x164,x165,x166,x167,x168,x169,x170,x171,x172,x173,x174,x175,x176,x177,x178,x179,x180,x181,x182,x183,x184,x185,x8,rfl,rfl,hb,cd0,cd1,cd2,cd3,cd4,cd5,cd6,cd7,cd8,cd9,cd10,cd11,cd12,cd13,cd14,cd15,cd16,cd17,cd18,cd19,cd20,cd21,cd22,cd23,cd24,cd25,cd26,cd27,cd28,cd29,cd30,cd31,cd32,cd33,cd34,cd35⟩ hf hd
      have hf' : b35 = false := hf
      subst hf'
      have d34 : b34 = true := hd ⟨34, .data⟩ (by simp) rfl
      subst d34
      have d32 : b32 = true := hd ⟨32, .chain⟩ (by simp) rfl
      subst d32
      have d0 : b0 = true := hd ⟨0, .phase⟩ (by simp) rfl
      subst d0
      have d1 : b1 = true := hd ⟨1, .phase⟩ (by simp) rfl
      subst d1
      have d2 : b2 = true := hd ⟨2, .phase⟩ (by simp) rfl
      subst d2
      have d3 : b3 = true := hd ⟨3, .phase⟩ (by simp) rfl
      subst d3
      have d4 : b4 = true := hd ⟨4, .phase⟩ (by simp) rfl
      subst d4
      have d5 : b5 = true := hd ⟨5, .phase⟩ (by simp) rfl
      subst d5
      have d6 : b6 = true := hd ⟨6, .phase⟩ (by simp) rfl
      subst d6
      have d7 : b7 = true := hd ⟨7, .phase⟩ (by simp) rfl
      subst d7
      have d8 : b8 = true := hd ⟨8, .phase⟩ (by simp) rfl
      subst d8
      have d9 : b9 = true := hd ⟨9, .phase⟩ (by simp) rfl
      subst d9
      have d10 : b10 = true := hd ⟨10, .phase⟩ (by simp) rfl
      subst d10
      have d11 : b11 = true := hd ⟨11, .phase⟩ (by simp) rfl
      subst d11
      have d12 : b12 = true := hd ⟨12, .phase⟩ (by simp) rfl
      subst d12
      have d13 : b13 = true := hd ⟨13, .phase⟩ (by simp) rfl
      subst d13
      have d14 : b14 = true := hd ⟨14, .phase⟩ (by simp) rfl
      subst d14
      have d15 : b15 = true := hd ⟨15, .phase⟩ (by simp) rfl
      subst d15
      have d16 : b16 = true := hd ⟨16, .phase⟩ (by simp) rfl
      subst d16
      have d17 : b17 = true := hd ⟨17, .phase⟩ (by simp) rfl
      subst d17
      have d18 : b18 = true := hd ⟨18, .phase⟩ (by simp) rfl
      subst d18
      have d19 : b19 = true := hd ⟨19, .phase⟩ (by simp) rfl
      subst d19
      have d20 : b20 = true := hd ⟨20, .phase⟩ (by simp) rfl
      subst d20
      have d21 : b21 = true := hd ⟨21, .phase⟩ (by simp) rfl
      subst d21
      have d22 : b22 = true := hd ⟨22, .phase⟩ (by simp) rfl
      subst d22
      have d23 : b23 = true := hd ⟨23, .phase⟩ (by simp) rfl
      subst d23
      have d24 : b24 = true := hd ⟨24, .phase⟩ (by simp) rfl
      subst d24
      have d25 : b25 = true := hd ⟨25, .phase⟩ (by simp) rfl
      subst d25
      have d26 : b26 = true := hd ⟨26, .phase⟩ (by simp) rfl
      subst d26
      have d27 : b27 = true := hd ⟨27, .phase⟩ (by simp) rfl
      subst d27
      have d28 : b28 = true := hd ⟨28, .phase⟩ (by simp) rfl
      subst d28
      have d29 : b29 = true := hd ⟨29, .phase⟩ (by simp) rfl
      subst d29
      have d30 : b30 = true := hd ⟨30, .phase⟩ (by simp) rfl
      subst d30
      have d31 : b31 = true := hd ⟨31, .phase⟩ (by simp) rfl
      subst d31
      have d33 : b33 = true := hd ⟨33, .phase⟩ (by simp) rfl
      subst d33
      obtain rfl := cd34.out rfl
      obtain rfl := cd32.out rfl
      obtain rfl := cd0.out rfl
      obtain rfl := cd1.out rfl
      obtain rfl := cd2.out rfl
      obtain rfl := cd3.out rfl
      obtain rfl := cd4.out rfl
      obtain rfl := cd5.out rfl
      obtain rfl := cd6.out rfl
      obtain rfl := cd7.out rfl
      obtain rfl := cd8.out rfl
      obtain rfl := cd9.out rfl
      obtain rfl := cd10.out rfl
      obtain rfl := cd11.out rfl
      obtain rfl := cd12.out rfl
      obtain rfl := cd13.out rfl
      obtain rfl := cd14.out rfl
      obtain rfl := cd15.out rfl
      obtain rfl := cd16.out rfl
      obtain rfl := cd17.out rfl
      obtain rfl := cd18.out rfl
      obtain rfl := cd19.out rfl
      obtain rfl := cd20.out rfl
      obtain rfl := cd21.out rfl
      obtain rfl := cd22.out rfl
      obtain rfl := cd23.out rfl
      obtain rfl := cd24.out rfl
      obtain rfl := cd25.out rfl
      obtain rfl := cd26.out rfl
      obtain rfl := cd27.out rfl
      obtain rfl := cd28.out rfl
      obtain rfl := cd29.out rfl
      obtain rfl := cd30.out rfl
      obtain rfl := cd31.out rfl
      obtain rfl := cd33.out rfl
      clear hf hd
      try simp only [sI, s0, s1]
      intro K hK
      rw [if_pos (by rfl)]
      go_simp
      exact hK.out _ _ ⟨true, true, true, true, true, true, true, true, true, true, true, true, true, true, true, true, true, true, true, true, true, true, true, true, true, true, true, true, true, true, true, true, true, true, true, true, .agg (bcs r).toArray, .slice (some al) n c, .int .i64 (i : Nat), .pointer (some (al.add (i * 32))), .agg (bcs li).toArray, .int .i64 (i : Nat), .int .i64 (n : Nat), .slice (some ⟨gq, 0, none⟩) m cq, .bool C3, .agg (bcs r).toArray, .slice (some al) n c, .int .i64 (i : Nat), .pointer (some (al.add (i * 32))), .agg (bcs li).toArray, .int .i64 (i : Nat), .int .i64 (n : Nat), .slice (some ⟨gq, 0, none⟩) m cq, .bool C3, .bool true, .bool true, .agg (bcs r).toArray, .slice (some al) n c, .int .i64 (i : Nat), .pointer (some (al.add (i * 32))), .agg (bcs li).toArray, .int .i64 (i : Nat), .int .i64 (n : Nat), .slice ap m cp, .slice ap m cp, .int .i64 (m : Nat), .int .i64 ((m : Int) - 1), .slice ah (m - 1) cp, .bool false, .bool true, .bool true, (.bool true), (by simp only [Act.put, sI, s0, s1]), (by simp only [Act.put, sI, s0, s1]), hb, (fun _ => rfl), (fun _ => rfl), (fun _ => rfl), (fun _ => rfl), (fun _ => rfl), (fun _ => rfl), (fun _ => rfl), (fun _ => rfl), (fun _ => rfl), (fun _ => rfl), (fun _ => rfl), (fun _ => rfl), (fun _ => rfl), (fun _ => rfl), (fun _ => rfl), (fun _ => rfl), (fun _ => rfl), (fun _ => rfl), (fun _ => rfl), (fun _ => rfl), (fun _ => rfl), (fun _ => rfl), (fun _ => rfl), (fun _ => rfl), (fun _ => rfl), (fun _ => rfl), (fun _ => rfl), (fun _ => rfl), (fun _ => rfl), (fun _ => rfl), (fun _ => rfl), (fun _ => rfl), (fun _ => rfl), (fun _ => rfl), (fun _ => rfl), (fun _ => rfl)⟩
  · rintro a w ⟨b0,b1,b2,b3,b4,b5,b6,b7,b8,b9,b10,b11,b12,b13,b14,b15,b16,b17,b18,b19,b20,b21,b22,b23,b24,b25,b26,b27,b28,b29,b30,b31,b32,b33,b34,b35,x151,x152,x153,x154,x155,x156,x157,x158,x159,x160,x161,x162,x163,x164,x165,x166,x167,x168,x169,x170,x171,x172,x173,x174,x175,x176,x177,x178,x179,x180,x181,x182,x183,x184,x185,x8,hL,rfl,hb,cd0,cd1,cd2,cd3,cd4,cd5,cd6,cd7,cd8,cd9,cd10,cd11,cd12,cd13,cd14,cd15,cd16,cd17,cd18,cd19,cd20,cd21,cd22,cd23,cd24,cd25,cd26,cd27,cd28,cd29,cd30,cd31,cd32,cd33,cd34,cd35⟩
    have hL' : [true, true, true, true, true, true, true, true, true, true, true, true, true, true, true, true, true, true, true, true, true, true, true, true, true, true, true, true, true, true, true, true, true, true, true, true] = [b0, b1, b2, b3, b4, b5, b6, b7, b8, b9, b10, b11, b12, b13, b14, b15, b16, b17, b18, b19, b20, b21, b22, b23, b24, b25, b26, b27, b28, b29, b30, b31, b32, b33, b34, b35] := congrArg Array.toList hL
    simp only [List.cons.injEq, and_true] at hL'
    obtain ⟨rfl, rfl, rfl, rfl, rfl, rfl, rfl, rfl, rfl, rfl, rfl, rfl, rfl, rfl, rfl, rfl, rfl, rfl, rfl, rfl, rfl, rfl, rfl, rfl, rfl, rfl, rfl, rfl, rfl, rfl, rfl, rfl, rfl, rfl, rfl, rfl⟩ := hL'
    obtain rfl := cd0.out rfl
    obtain rfl := cd1.out rfl
    obtain rfl := cd2.out rfl
    obtain rfl := cd3.out rfl
    obtain rfl := cd4.out rfl
    obtain rfl := cd5.out rfl
    obtain rfl := cd6.out rfl
    obtain rfl := cd7.out rfl
    obtain rfl := cd8.out rfl
    obtain rfl := cd9.out rfl
    obtain rfl := cd10.out rfl
    obtain rfl := cd11.out rfl
    obtain rfl := cd12.out rfl
    obtain rfl := cd13.out rfl
    obtain rfl := cd14.out rfl
    obtain rfl := cd15.out rfl
    obtain rfl := cd16.out rfl
    obtain rfl := cd17.out rfl
    obtain rfl := cd18.out rfl
    obtain rfl := cd19.out rfl
    obtain rfl := cd20.out rfl
    obtain rfl := cd21.out rfl
    obtain rfl := cd22.out rfl
    obtain rfl := cd23.out rfl
    obtain rfl := cd24.out rfl
    obtain rfl := cd25.out rfl
    obtain rfl := cd26.out rfl
    obtain rfl := cd27.out rfl
    obtain rfl := cd28.out rfl
    obtain rfl := cd29.out rfl
    obtain rfl := cd30.out rfl
    obtain rfl := cd31.out rfl
    obtain rfl := cd32.out rfl
    obtain rfl := cd33.out rfl
    obtain rfl := cd34.out rfl
    obtain rfl := cd35.out rfl
    clear hL
    simp only [sI, s0, s1]
    replace B := B.trans (hb.mono B.size)
    go_wp2_with fail
    go_ret
    exact ⟨rfl, B⟩
end Go.Proofs.YtpphlmbhonaglaaDoor
