/- Requests (chapter 17): their text. Conditions: of the landed function, the table that the library's Itoa reads. -/
import Derived.Test.YtmgigjpkpeamjaaDoorReq1
import Derived.Test.YtmgigjpkpeamjaaDoorReq2
import Derived.Test.YtmgigjpkpeamjaaDoorFacts2
import Derived.Test.YtmgigjpkpeamjaaDoorNamesD
import Derived.Test.YtmgigjpkpeamjaaDoorTab
import Derived.Deep.RegionHeld3
namespace Go.Proofs.YtmgigjpkpeamjaaDoor
open Go.ChangeShapes Go.WideShapes Go.ChangeAt Go.RowKit
set_option linter.unusedVariables false

/-- A request's text. -/
def reqS (q : RequestD) : ByteArray := if reqB q = true then nameS q.Person ++ sp ++ nameS q.Device ++ sp ++ nameS q.Program ++ sp ++ numS q.Action ++ sp ++ nameS q.Object ++ sp ++ numS q.Now else ⟨#[]⟩
theorem reqB_nums {q : RequestD} (h : reqB q = true) : (0 ≤ q.Action ∧ q.Action ≤ 5) ∧ (0 ≤ q.Now ∧ q.Now ≤ 10000) := by
  unfold reqB at h
  simp only [Bool.and_eq_true, decide_eq_true_eq] at h
  exact ⟨h.2.2.2.2.1, h.2.2.2.2.2⟩
set_option maxHeartbeats 8000000 in
set_option maxRecDepth 100000 in
theorem spec_formatRequest (q : RequestD) (w : World) : Calls Tryd.prog 4 #[q.val] w fun e w' => e = .returned (.string (reqS q)) ∧ Below w.heap.size w w' := by
  by_cases hF : reqB q = true
  · have hP := reqB_nums hF
    have hfs : reqS q = nameS q.Person ++ sp ++ nameS q.Device ++ sp ++ nameS q.Program ++ sp ++ numS q.Action ++ sp ++ nameS q.Object ++ sp ++ numS q.Now := by unfold reqS; rw [if_pos hF]
    have C1 := Lib.hid (fun W => show Calls Tryd.prog 7 #[q.val] W fun e w' => e = .returned (.bool true) ∧ Below W.heap.size W w' from hF ▸ spec_isRequest q W)
    rw [hfs]
    clear hfs hF
    obtain ⟨p, d, g, k, ob, n⟩ := q
    rw [RequestD.val_mk] at C1 ⊢
    obtain ⟨⟨k0, k1⟩, n0, n1⟩ := hP
    replace k0 : 0 ≤ k := k0
    replace k1 : k ≤ 5 := k1
    replace n0 : 0 ≤ n := n0
    replace n1 : n ≤ 10000 := n1
    obtain ⟨K, hK⟩ : ∃ K, nameS p = K := ⟨_, rfl⟩
    have lK : K.size ≤ 20 := hK ▸ nameS_le20 p
    obtain ⟨N, hN⟩ : ∃ N, nameS d = N := ⟨_, rfl⟩
    have lN : N.size ≤ 20 := hN ▸ nameS_le20 d
    obtain ⟨V, hV⟩ : ∃ V, nameS g = V := ⟨_, rfl⟩
    have lV : V.size ≤ 20 := hV ▸ nameS_le20 g
    obtain ⟨I, hI⟩ : ∃ I, numS k = I := ⟨_, rfl⟩
    have lI : I.size ≤ 20 := hI ▸ numS_le (by omega) (by omega)
    obtain ⟨A, hA⟩ : ∃ A, nameS ob = A := ⟨_, rfl⟩
    have lA : A.size ≤ 20 := hA ▸ nameS_le20 ob
    obtain ⟨U, hU⟩ : ∃ U, numS n = U := ⟨_, rfl⟩
    have lU : U.size ≤ 20 := hU ▸ numS_le (by omega) (by omega)
    have CK := Lib.hid (fun W => show Calls Tryd.prog 8 #[.int .i64 p] W fun e w' => e = .returned (.string K) ∧ Below W.heap.size W w' from hK ▸ spec_formatName p W)
    have CN := Lib.hid (fun W => show Calls Tryd.prog 8 #[.int .i64 d] W fun e w' => e = .returned (.string N) ∧ Below W.heap.size W w' from hN ▸ spec_formatName d W)
    have CV := Lib.hid (fun W => show Calls Tryd.prog 8 #[.int .i64 g] W fun e w' => e = .returned (.string V) ∧ Below W.heap.size W w' from hV ▸ spec_formatName g W)
    have CI := Lib.hid (fun W => show Calls Tryd.prog 9 #[.int .i64 k] W fun e w' => e = .returned (.string I) ∧ Below W.heap.size W w' from hI ▸ spec_format k W (by omega) (by omega))
    have CA := Lib.hid (fun W => show Calls Tryd.prog 8 #[.int .i64 ob] W fun e w' => e = .returned (.string A) ∧ Below W.heap.size W w' from hA ▸ spec_formatName ob W)
    have CU := Lib.hid (fun W => show Calls Tryd.prog 9 #[.int .i64 n] W fun e w' => e = .returned (.string U) ∧ Below W.heap.size W w' from hU ▸ spec_format n W (by omega) (by omega))
    show Calls _ _ _ _ fun e w' => e = .returned (.string (nameS p ++ sp ++ nameS d ++ sp ++ nameS g ++ sp ++ numS k ++ sp ++ nameS ob ++ sp ++ numS n)) ∧ _
    rw [hK, hN, hV, hI, hA, hU]
    have lsp : (⟨#[32]⟩ : ByteArray).size ≤ 1 := by decide
    obtain ⟨T1, hT1⟩ : ∃ T, K ++ ⟨#[32]⟩ = T := ⟨_, rfl⟩
    obtain ⟨lT1, g1⟩ := add_named (P := Tryd.prog) (k := 21) hT1 lK lsp (by decide) (by decide)
    obtain ⟨T2, hT2⟩ : ∃ T, T1 ++ N = T := ⟨_, rfl⟩
    obtain ⟨lT2, g2⟩ := add_named (P := Tryd.prog) (k := 41) hT2 lT1 lN (by decide) (by decide)
    obtain ⟨T3, hT3⟩ : ∃ T, T2 ++ ⟨#[32]⟩ = T := ⟨_, rfl⟩
    obtain ⟨lT3, g3⟩ := add_named (P := Tryd.prog) (k := 42) hT3 lT2 lsp (by decide) (by decide)
    obtain ⟨T4, hT4⟩ : ∃ T, T3 ++ V = T := ⟨_, rfl⟩
    obtain ⟨lT4, g4⟩ := add_named (P := Tryd.prog) (k := 62) hT4 lT3 lV (by decide) (by decide)
    obtain ⟨T5, hT5⟩ : ∃ T, T4 ++ ⟨#[32]⟩ = T := ⟨_, rfl⟩
    obtain ⟨lT5, g5⟩ := add_named (P := Tryd.prog) (k := 63) hT5 lT4 lsp (by decide) (by decide)
    obtain ⟨T6, hT6⟩ : ∃ T, T5 ++ I = T := ⟨_, rfl⟩
    obtain ⟨lT6, g6⟩ := add_named (P := Tryd.prog) (k := 83) hT6 lT5 lI (by decide) (by decide)
    obtain ⟨T7, hT7⟩ : ∃ T, T6 ++ ⟨#[32]⟩ = T := ⟨_, rfl⟩
    obtain ⟨lT7, g7⟩ := add_named (P := Tryd.prog) (k := 84) hT7 lT6 lsp (by decide) (by decide)
    obtain ⟨T8, hT8⟩ : ∃ T, T7 ++ A = T := ⟨_, rfl⟩
    obtain ⟨lT8, g8⟩ := add_named (P := Tryd.prog) (k := 104) hT8 lT7 lA (by decide) (by decide)
    obtain ⟨T9, hT9⟩ : ∃ T, T8 ++ ⟨#[32]⟩ = T := ⟨_, rfl⟩
    obtain ⟨lT9, g9⟩ := add_named (P := Tryd.prog) (k := 105) hT9 lT8 lsp (by decide) (by decide)
    obtain ⟨T10, hT10⟩ : ∃ T, T9 ++ U = T := ⟨_, rfl⟩
    obtain ⟨lT10, g10⟩ := add_named (P := Tryd.prog) (k := 125) hT10 lT9 lU (by decide) (by decide)
    rw [show K ++ sp ++ N ++ sp ++ V ++ sp ++ I ++ sp ++ A ++ sp ++ U = T10 by unfold sp; rw [hT1, hT2, hT3, hT4, hT5, hT6, hT7, hT8, hT9, hT10]]
    clear hT1 lT1 hT2 lT2 hT3 lT3 hT4 lT4 hT5 lT5 hT6 lT6 hT7 lT7 hT8 lT8 hT9 lT9 hT10 lT10
    clear hK hN hI hA hU hV lK lN lI lA lU lV lsp
    clear k0 k1 n0 n1
    have hC := blk_new w 25 #[.int .i64 p, .int .i64 d, .int .i64 g, .int .i64 k, .int .i64 ob, .int .i64 n]
    obtain ⟨W0, hW0⟩ : ∃ W0 : World, W0 = w.alloc (.cells #[.int .i64 p, .int .i64 d, .int .i64 g, .int .i64 k, .int .i64 ob, .int .i64 n] 25) := ⟨_, rfl⟩
    have hB0 : Below w.heap.size w W0 := by rw [hW0]; go_grown
    have z0 : w.heap.size + 1 ≤ W0.heap.size := by rw [hW0]; simp
    rw [← hW0] at hC
    have HS := Lib.hid (fun (w' : World) (hb : Below (w.heap.size + 1) W0 w') => (let h := (cls_6 (blk_keep hC hb (by omega))).1; ⟨h.1, h.2.1, h.2.2.1, h.2.2.2.1, h.2.2.2.2.1, h.2.2.2.2.2, hb⟩ :
      w'.cell? ⟨w.heap.size, 0, none⟩ = some (.int .i64 p) ∧ w'.cell? ⟨w.heap.size, 1, none⟩ = some (.int .i64 d) ∧ w'.cell? ⟨w.heap.size, 2, none⟩ = some (.int .i64 g) ∧ w'.cell? ⟨w.heap.size, 3, none⟩ = some (.int .i64 k) ∧ w'.cell? ⟨w.heap.size, 4, none⟩ = some (.int .i64 ob) ∧ w'.cell? ⟨w.heap.size, 5, none⟩ = some (.int .i64 n) ∧ Below (w.heap.size + 1) W0 w'))
    clear hC
    go_enter Tryd.func4, Tryd.ntmps4
    go_upto_region 1 with fail
    rw [← hW0]
    clear hW0
    obtain ⟨x0, x1, x2, x3, x4, x5, -⟩ := HS.out _ (Below.refl _ _)
    go_wp2_with fail
    refine (C1.out _).mono ?_
    rintro e w1 ⟨rfl, b1⟩
    have d1 : Below (w.heap.size + 1) W0 w1 := b1.mono z0
    have z1 := Nat.le_trans z0 b1.size
    clear b1 x0 x1 x2 x3 x4 x5
    go_upto_region 3 with fail
    have d5 := d1.drew
    have z5 : w.heap.size + 1 ≤ w1.drew.heap.size := z1
    go_region_held3 (fun w' => w'.cell? ⟨w.heap.size, 0, none⟩ = some (.int .i64 p) ∧ w'.cell? ⟨w.heap.size, 1, none⟩ = some (.int .i64 d) ∧ w'.cell? ⟨w.heap.size, 2, none⟩ = some (.int .i64 g) ∧ w'.cell? ⟨w.heap.size, 3, none⟩ = some (.int .i64 k) ∧ w'.cell? ⟨w.heap.size, 4, none⟩ = some (.int .i64 ob) ∧ w'.cell? ⟨w.heap.size, 5, none⟩ = some (.int .i64 n) ∧ Below (w.heap.size + 1) W0 w')
      (first | exact HS.out _ d5 | exact HS.out _ d6 | exact HS.out _ d7 | exact HS.out _ d8 | exact HS.out _ d9 | exact HS.out _ d10 | exact HS.out _ d11)
      (first
        | (go_at_call 8; (with_reducible refine (CK.out _).mono ?_); rintro e6 w6 ⟨rfl, b6⟩; have d6 := d5.trans (b6.mono z5); have z6 := Nat.le_trans z5 b6.size)
        | (go_at_call 8; (with_reducible refine (CN.out _).mono ?_); rintro e7 w7 ⟨rfl, b7⟩; have d7 := d6.trans (b7.mono z6); have z7 := Nat.le_trans z6 b7.size)
        | (go_at_call 8; (with_reducible refine (CV.out _).mono ?_); rintro e8 w8 ⟨rfl, b8⟩; have d8 := d7.trans (b8.mono z7); have z8 := Nat.le_trans z7 b8.size)
        | (go_at_call 9; (with_reducible refine (CI.out _).mono ?_); rintro e9 w9 ⟨rfl, b9⟩; have d9 := d8.trans (b9.mono z8); have z9 := Nat.le_trans z8 b9.size)
        | (go_at_call 8; (with_reducible refine (CA.out _).mono ?_); rintro e10 w10 ⟨rfl, b10⟩; have d10 := d9.trans (b10.mono z9); have z10 := Nat.le_trans z9 b10.size)
        | (go_at_call 9; (with_reducible refine (CU.out _).mono ?_); rintro e11 w11 ⟨rfl, b11⟩; have d11 := d10.trans (b11.mono z10); have z11 := Nat.le_trans z10 b11.size))
    go_wp2
    go_ret
    exact ⟨rfl, hB0.trans (d11.mono (Nat.le_succ _))⟩
  · have e0 : reqS q = ⟨#[]⟩ := by unfold reqS; rw [if_neg hF]
    have C1 := Lib.hid (fun W => show Calls Tryd.prog 7 #[q.val] W fun e w' => e = .returned (.bool false) ∧ Below W.heap.size W w' from (Bool.not_eq_true _ ▸ hF : reqB q = false) ▸ spec_isRequest q W)
    rw [e0]
    clear e0 hF
    obtain ⟨p, d, g, k, ob, n⟩ := q
    rw [RequestD.val_mk] at C1 ⊢
    go_enter Tryd.func4, Tryd.ntmps4
    go_wp2_with fail
    refine (C1.out _).mono ?_
    rintro e w1 ⟨rfl, b1⟩
    have hb := box_below b1
    clear b1
    go_wp2
    go_ret
    exact ⟨rfl, hb⟩
theorem join_req (K N V I A U : ByteArray) : (⟨(Lib.join ([K, N, V, I, A, U].map (·.data.toList)) (⟨#[32]⟩ : ByteArray).data.toList).toArray⟩ : ByteArray) = K ++ sp ++ N ++ sp ++ V ++ sp ++ I ++ sp ++ A ++ sp ++ U := by
  unfold sp
  apply ByteArray.ext
  simp [Lib.join]
theorem join_req_le (K N V I A U : ByteArray) (lK : K.size ≤ 20) (lN : N.size ≤ 20) (lV : V.size ≤ 20) (lI : I.size ≤ 20) (lA : A.size ≤ 20) (lU : U.size ≤ 20) :
    (Lib.join ([K, N, V, I, A, U].map (·.data.toList)) (⟨#[32]⟩ : ByteArray).data.toList).length ≤ 140737488355328 := by
  have hs : sp.size = 1 := rfl
  have h : (Lib.join ([K, N, V, I, A, U].map (·.data.toList)) (⟨#[32]⟩ : ByteArray).data.toList).length = K.size + 1 + N.size + 1 + V.size + 1 + I.size + 1 + A.size + 1 + U.size := by
    show (⟨(Lib.join ([K, N, V, I, A, U].map (·.data.toList)) (⟨#[32]⟩ : ByteArray).data.toList).toArray⟩ : ByteArray).size = _
    rw [join_req]
    simp only [ByteArray.size_append, hs]
  rw [h]
  omega
set_option maxHeartbeats 8000000 in
set_option maxRecDepth 100000 in
theorem impl_formatRequest (q : RequestD) (w : World) (hT : HasTab w) : Calls Tryd.prog 6 #[q.val] w fun e w' => e = .returned (.string (reqS q)) ∧ Below w.heap.size w w' := by
  by_cases hF : reqB q = true
  · have hP := reqB_nums hF
    have hfs : reqS q = nameS q.Person ++ sp ++ nameS q.Device ++ sp ++ nameS q.Program ++ sp ++ numS q.Action ++ sp ++ nameS q.Object ++ sp ++ numS q.Now := by unfold reqS; rw [if_pos hF]
    have C1 := Lib.hid (fun W => show Calls Tryd.prog 10 #[q.val] W fun e w' => e = .returned (.bool true) ∧ Below W.heap.size W w' from hF ▸ impl_isRequest q W)
    rw [hfs]
    clear hfs hF
    obtain ⟨p, d, g, k, ob, n⟩ := q
    rw [RequestD.val_mk] at C1 ⊢
    obtain ⟨⟨k0, k1⟩, n0, n1⟩ := hP
    replace k0 : 0 ≤ k := k0
    replace k1 : k ≤ 5 := k1
    replace n0 : 0 ≤ n := n0
    replace n1 : n ≤ 10000 := n1
    obtain ⟨K, hK⟩ : ∃ K, nameS p = K := ⟨_, rfl⟩
    have lK : K.size ≤ 20 := hK ▸ nameS_le20 p
    obtain ⟨N, hN⟩ : ∃ N, nameS d = N := ⟨_, rfl⟩
    have lN : N.size ≤ 20 := hN ▸ nameS_le20 d
    obtain ⟨V, hV⟩ : ∃ V, nameS g = V := ⟨_, rfl⟩
    have lV : V.size ≤ 20 := hV ▸ nameS_le20 g
    obtain ⟨I, hI⟩ : ∃ I, numS k = I := ⟨_, rfl⟩
    have lI : I.size ≤ 20 := hI ▸ numS_le (by omega) (by omega)
    obtain ⟨A, hA⟩ : ∃ A, nameS ob = A := ⟨_, rfl⟩
    have lA : A.size ≤ 20 := hA ▸ nameS_le20 ob
    obtain ⟨U, hU⟩ : ∃ U, numS n = U := ⟨_, rfl⟩
    have lU : U.size ≤ 20 := hU ▸ numS_le (by omega) (by omega)
    have CK := Lib.hid (fun W (h : HasTab W) => show Calls Tryd.prog 11 #[.int .i64 p] W fun e w' => e = .returned (.string K) ∧ Below W.heap.size W w' from hK ▸ impl_formatName p W h)
    have CN := Lib.hid (fun W (h : HasTab W) => show Calls Tryd.prog 11 #[.int .i64 d] W fun e w' => e = .returned (.string N) ∧ Below W.heap.size W w' from hN ▸ impl_formatName d W h)
    have CV := Lib.hid (fun W (h : HasTab W) => show Calls Tryd.prog 11 #[.int .i64 g] W fun e w' => e = .returned (.string V) ∧ Below W.heap.size W w' from hV ▸ impl_formatName g W h)
    have CI := Lib.hid (fun W (h : HasTab W) => show Calls Tryd.prog 12 #[.int .i64 k] W fun e w' => e = .returned (.string I) ∧ Below W.heap.size W w' from hI ▸ impl_format k W (by omega) (by omega) h)
    have CA := Lib.hid (fun W (h : HasTab W) => show Calls Tryd.prog 11 #[.int .i64 ob] W fun e w' => e = .returned (.string A) ∧ Below W.heap.size W w' from hA ▸ impl_formatName ob W h)
    have CU := Lib.hid (fun W (h : HasTab W) => show Calls Tryd.prog 12 #[.int .i64 n] W fun e w' => e = .returned (.string U) ∧ Below W.heap.size W w' from hU ▸ impl_format n W (by omega) (by omega) h)
    show Calls _ _ _ _ fun e w' => e = .returned (.string (nameS p ++ sp ++ nameS d ++ sp ++ nameS g ++ sp ++ numS k ++ sp ++ nameS ob ++ sp ++ numS n)) ∧ _
    rw [hK, hN, hV, hI, hA, hU]
    rw [← join_req]
    have hlen := join_req_le K N V I A U lK lN lV lI lA lU
    obtain ⟨T, hTT⟩ : ∃ T : ByteArray, ⟨(Lib.join ([K, N, V, I, A, U].map (·.data.toList)) (⟨#[32]⟩ : ByteArray).data.toList).toArray⟩ = T := ⟨_, rfl⟩
    have CJ := Lib.hid (fun (b : Nat) (W : World) (hb : b < W.heap.size) (g : W.cell? ⟨b, 0, none⟩ = some (.string K) ∧ W.cell? ⟨b, 1, none⟩ = some (.string N) ∧ W.cell? ⟨b, 2, none⟩ = some (.string V) ∧ W.cell? ⟨b, 3, none⟩ = some (.string I) ∧ W.cell? ⟨b, 4, none⟩ = some (.string A) ∧ W.cell? ⟨b, 5, none⟩ = some (.string U)) =>
      show Calls Tryd.prog 13 #[.slice (some ⟨b, 0, none⟩) 6 6, .string ⟨#[32]⟩] W fun e w' => e = .returned (.string T) ∧ Below W.heap.size W w' from hTT ▸ Tryd.strings_Join b 0 6 [K, N, V, I, A, U] ⟨#[32]⟩ W (by
        intro j x hx
        rw [Nat.zero_add]
        match j, hx with
        | 0, hx => obtain rfl := Option.some.inj hx; exact g.1
        | 1, hx => obtain rfl := Option.some.inj hx; exact g.2.1
        | 2, hx => obtain rfl := Option.some.inj hx; exact g.2.2.1
        | 3, hx => obtain rfl := Option.some.inj hx; exact g.2.2.2.1
        | 4, hx => obtain rfl := Option.some.inj hx; exact g.2.2.2.2.1
        | 5, hx => obtain rfl := Option.some.inj hx; exact g.2.2.2.2.2
        | j + 6, hx => simp at hx) hb (by simp) (by simp) hlen)
    rw [hTT]
    clear hK hN hI hA hU hV lK lN lI lA lU lV hlen hTT
    clear k0 k1 n0 n1
    have hC := blk_new w 25 #[.int .i64 p, .int .i64 d, .int .i64 g, .int .i64 k, .int .i64 ob, .int .i64 n]
    obtain ⟨W0, hW0⟩ : ∃ W0 : World, W0 = w.alloc (.cells #[.int .i64 p, .int .i64 d, .int .i64 g, .int .i64 k, .int .i64 ob, .int .i64 n] 25) := ⟨_, rfl⟩
    have hB0 : Below w.heap.size w W0 := by rw [hW0]; go_grown
    have z0 : w.heap.size + 1 ≤ W0.heap.size := by rw [hW0]; simp
    rw [← hW0] at hC
    have HS := Lib.hid (fun (w' : World) (hb : Below (w.heap.size + 1) W0 w') => (let h := (cls_6 (blk_keep hC hb (by omega))).1; ⟨h.1, h.2.1, h.2.2.1, h.2.2.2.1, h.2.2.2.2.1, h.2.2.2.2.2, hb⟩ :
      w'.cell? ⟨w.heap.size, 0, none⟩ = some (.int .i64 p) ∧ w'.cell? ⟨w.heap.size, 1, none⟩ = some (.int .i64 d) ∧ w'.cell? ⟨w.heap.size, 2, none⟩ = some (.int .i64 g) ∧ w'.cell? ⟨w.heap.size, 3, none⟩ = some (.int .i64 k) ∧ w'.cell? ⟨w.heap.size, 4, none⟩ = some (.int .i64 ob) ∧ w'.cell? ⟨w.heap.size, 5, none⟩ = some (.int .i64 n) ∧ Below (w.heap.size + 1) W0 w'))
    have HT := Lib.hid (fun (w' : World) (d : Below (w.heap.size + 1) W0 w') => hT.kept (hB0.trans (d.mono (Nat.le_succ _))))
    clear hT
    clear hC
    go_enter Tryd.func6, Tryd.ntmps6
    go_upto_region 1 with fail
    rw [← hW0]
    clear hW0
    obtain ⟨x0, x1, x2, x3, x4, x5, -⟩ := HS.out _ (Below.refl _ _)
    go_wp2_with fail
    refine (C1.out _).mono ?_
    rintro e w1 ⟨rfl, b1⟩
    have d1 : Below (w.heap.size + 1) W0 w1 := b1.mono z0
    have z1 := Nat.le_trans z0 b1.size
    clear b1 x0 x1 x2 x3 x4 x5
    go_upto_region 3 with fail
    have d5 := d1.drew
    have z5 : w.heap.size + 1 ≤ w1.drew.heap.size := z1
    go_region_held3 (fun w' => w'.cell? ⟨w.heap.size, 0, none⟩ = some (.int .i64 p) ∧ w'.cell? ⟨w.heap.size, 1, none⟩ = some (.int .i64 d) ∧ w'.cell? ⟨w.heap.size, 2, none⟩ = some (.int .i64 g) ∧ w'.cell? ⟨w.heap.size, 3, none⟩ = some (.int .i64 k) ∧ w'.cell? ⟨w.heap.size, 4, none⟩ = some (.int .i64 ob) ∧ w'.cell? ⟨w.heap.size, 5, none⟩ = some (.int .i64 n) ∧ Below (w.heap.size + 1) W0 w')
      (first | exact HS.out _ d5 | exact HS.out _ d6 | exact HS.out _ d7 | exact HS.out _ d8 | exact HS.out _ d9 | exact HS.out _ d10 | exact HS.out _ d11 | exact HS.out _ (d11.alloc z11 _))
      (first
        | (go_at_call 11; (with_reducible refine (CK.out _ (HT.out _ d5)).mono ?_); rintro e6 w6 ⟨rfl, b6⟩; have d6 := d5.trans (b6.mono z5); have z6 := Nat.le_trans z5 b6.size)
        | (go_at_call 11; (with_reducible refine (CN.out _ (HT.out _ d6)).mono ?_); rintro e7 w7 ⟨rfl, b7⟩; have d7 := d6.trans (b7.mono z6); have z7 := Nat.le_trans z6 b7.size)
        | (go_at_call 11; (with_reducible refine (CV.out _ (HT.out _ d7)).mono ?_); rintro e8 w8 ⟨rfl, b8⟩; have d8 := d7.trans (b8.mono z7); have z8 := Nat.le_trans z7 b8.size)
        | (go_at_call 12; (with_reducible refine (CI.out _ (HT.out _ d8)).mono ?_); rintro e9 w9 ⟨rfl, b9⟩; have d9 := d8.trans (b9.mono z8); have z9 := Nat.le_trans z8 b9.size)
        | (go_at_call 11; (with_reducible refine (CA.out _ (HT.out _ d9)).mono ?_); rintro e10 w10 ⟨rfl, b10⟩; have d10 := d9.trans (b10.mono z9); have z10 := Nat.le_trans z9 b10.size)
        | (go_at_call 12; (with_reducible refine (CU.out _ (HT.out _ d10)).mono ?_); rintro e11 w11 ⟨rfl, b11⟩; have d11 := d10.trans (b11.mono z10); have z11 := Nat.le_trans z10 b11.size))
    have d12 := d11.alloc z11 (.cells #[.string K, .string N, .string V, .string I, .string A, .string U] 9)
    have z12 : w.heap.size + 1 ≤ (w11.alloc (.cells #[.string K, .string N, .string V, .string I, .string A, .string U] 9)).heap.size := by simp; omega
    go_wp2_with fail
    refine (CJ.out _ _ (by simp) ⟨by go_simp, by go_simp, by go_simp, by go_simp, by go_simp, by go_simp⟩).mono ?_
    rintro e w13 ⟨rfl, b13⟩
    have d13 := d12.trans (b13.mono z12)
    go_wp2
    go_ret
    exact ⟨rfl, hB0.trans (d13.mono (Nat.le_succ _))⟩
  · have e0 : reqS q = ⟨#[]⟩ := by unfold reqS; rw [if_neg hF]
    have C1 := Lib.hid (fun W => show Calls Tryd.prog 10 #[q.val] W fun e w' => e = .returned (.bool false) ∧ Below W.heap.size W w' from (Bool.not_eq_true _ ▸ hF : reqB q = false) ▸ impl_isRequest q W)
    rw [e0]
    clear e0 hF
    obtain ⟨p, d, g, k, ob, n⟩ := q
    rw [RequestD.val_mk] at C1 ⊢
    go_enter Tryd.func6, Tryd.ntmps6
    go_wp2_with fail
    refine (C1.out _).mono ?_
    rintro e w1 ⟨rfl, b1⟩
    have hb := box_below b1
    clear b1
    go_wp2
    go_ret
    exact ⟨rfl, hb⟩
end Go.Proofs.YtmgigjpkpeamjaaDoor
