/- Chapter 6: FormatFact (33aef1c). Conditions: the table that the library's Itoa reads. -/
import Derived.Test.YtdggjjdbbpcncaaDoorFactsI
import Derived.Test.YtdggjjdbbpcncaaDoorFacts2
import Derived.Test.YtdggjjdbbpcncaaDoorNamesD
import Derived.Test.YtdggjjdbbpcncaaDoorTab
namespace Go.Proofs.YtdggjjdbbpcncaaDoor
open Go.ChangeShapes Go.WideShapes Go.ChangeAt Go.RowKit
set_option linter.unusedVariables false
theorem impl_formatValue (k v : Int) (w : World) (h0 : -9223372036854775808 ≤ v) (h1 : v ≤ 9223372036854775807) (hT : HasTab w) : Calls Tryd.prog 33 #[.int .i64 k, .int .i64 v] w fun e w' => e = .returned (.string (if k = 2 then nameS v else numS v)) ∧ Below w.heap.size w w' := by
  by_cases hk : k = 2
  · subst hk
    rw [if_pos rfl]
    have C := Lib.hid (impl_formatName v w hT)
    clear hT
    go_enter Tryd.func33, Tryd.ntmps33
    go_wp2_with fail
    refine C.out.mono ?_
    rintro e w1 ⟨rfl, b1⟩
    go_wp2
    go_ret
    exact ⟨rfl, b1⟩
  · rw [if_neg hk]
    have e2 : (k == 2) = false := beq_eq_false_iff_ne.2 hk
    have C := Lib.hid (show Calls Tryd.prog 34 #[.int .i64 v] w fun e w' => e = .returned (.string (numS v)) ∧ Below w.heap.size w w' from impl_format v w h0 h1 hT)
    clear hT hk
    go_enter Tryd.func33, Tryd.ntmps33
    go_wp2_with fail
    refine C.out.mono ?_
    rintro e w1 ⟨rfl, b1⟩
    go_wp2
    go_ret
    exact ⟨rfl, b1⟩
theorem join_six (K N V I A U : ByteArray) : (⟨(Lib.join ([K, N, V, I, A, U].map (·.data.toList)) (⟨#[32]⟩ : ByteArray).data.toList).toArray⟩ : ByteArray) = K ++ sp ++ N ++ sp ++ V ++ sp ++ I ++ sp ++ A ++ sp ++ U := by
  unfold sp
  apply ByteArray.ext
  simp [Lib.join]
theorem join_six_le (K N V I A U : ByteArray) (lK : K.size ≤ 20) (lN : N.size ≤ 20) (lV : V.size ≤ 20) (lI : I.size ≤ 20) (lA : A.size ≤ 20) (lU : U.size ≤ 20) :
    (Lib.join ([K, N, V, I, A, U].map (·.data.toList)) (⟨#[32]⟩ : ByteArray).data.toList).length ≤ 140737488355328 := by
  have hs : sp.size = 1 := rfl
  have h : (Lib.join ([K, N, V, I, A, U].map (·.data.toList)) (⟨#[32]⟩ : ByteArray).data.toList).length = K.size + 1 + N.size + 1 + V.size + 1 + I.size + 1 + A.size + 1 + U.size := by
    show (⟨(Lib.join ([K, N, V, I, A, U].map (·.data.toList)) (⟨#[32]⟩ : ByteArray).data.toList).toArray⟩ : ByteArray).size = _
    rw [join_six]
    simp only [ByteArray.size_append, hs]
  rw [h]
  omega
set_option maxHeartbeats 4000000 in
theorem impl_formatFact (f : FactD) (w : World) (hf : f.wf) (hT : HasTab w) : Calls Tryd.prog 14 #[f.val] w fun e w' => e = .returned (.string (factS f)) ∧ Below w.heap.size w w' := by
  clear hf
  by_cases hF : factB f = true
  · have hP := (factB_iff f).1 hF
    have hfs : factS f = kindS f.Kind ++ sp ++ nameS f.Subject ++ sp ++ (if f.Kind = 2 then nameS f.Value else numS f.Value) ++ sp ++ numS f.Issuer ++ sp ++ numS f.At ++ sp ++ numS f.Until := by unfold factS; rw [if_pos hF]
    have C1 := Lib.hid (fun W => show Calls Tryd.prog 9 #[f.val] W fun e w' => e = .returned (.bool true) ∧ Below W.heap.size W w' from hF ▸ impl_isFact f W)
    rw [hfs]
    clear hfs hF
    obtain ⟨k, s, v, i, a, u⟩ := f
    simp only [kindP, timesP, isT] at hP
    rw [FactD.val_mk] at C1 ⊢
    obtain ⟨K, hK⟩ : ∃ K, kindS k = K := ⟨_, rfl⟩
    obtain ⟨N, hN⟩ : ∃ N, nameS s = N := ⟨_, rfl⟩
    obtain ⟨I, hI⟩ : ∃ I, numS i = I := ⟨_, rfl⟩
    obtain ⟨A, hA⟩ : ∃ A, numS a = A := ⟨_, rfl⟩
    obtain ⟨U, hU⟩ : ∃ U, numS u = U := ⟨_, rfl⟩
    obtain ⟨V, hV⟩ : ∃ V, (if k = 2 then nameS v else numS v) = V := ⟨_, rfl⟩
    have lK : K.size ≤ 20 := hK ▸ kindS_le k
    have lN : N.size ≤ 20 := hN ▸ nameS_le20 s
    have lI : I.size ≤ 20 := hI ▸ numS_le (by omega) (by omega)
    have lA : A.size ≤ 20 := hA ▸ numS_le (by omega) (by omega)
    have lU : U.size ≤ 20 := hU ▸ numS_le (by omega) (by omega)
    have lV : V.size ≤ 20 := by
      rw [← hV]
      split
      · exact nameS_le20 v
      · exact numS_le (by omega) (by omega)
    have CK := Lib.hid (fun W => show Calls Tryd.prog 31 #[.int .i64 k] W fun e w' => e = .returned (.string K) ∧ Below W.heap.size W w' from hK ▸ impl_factName k W)
    have CN := Lib.hid (fun W (h : HasTab W) => show Calls Tryd.prog 32 #[.int .i64 s] W fun e w' => e = .returned (.string N) ∧ Below W.heap.size W w' from hN ▸ impl_formatName s W h)
    have CV := Lib.hid (fun W (h : HasTab W) => show Calls Tryd.prog 33 #[.int .i64 k, .int .i64 v] W fun e w' => e = .returned (.string V) ∧ Below W.heap.size W w' from hV ▸ impl_formatValue k v W (by omega) (by omega) h)
    have CI := Lib.hid (fun W (h : HasTab W) => show Calls Tryd.prog 34 #[.int .i64 i] W fun e w' => e = .returned (.string I) ∧ Below W.heap.size W w' from hI ▸ impl_format i W (by omega) (by omega) h)
    have CA := Lib.hid (fun W (h : HasTab W) => show Calls Tryd.prog 34 #[.int .i64 a] W fun e w' => e = .returned (.string A) ∧ Below W.heap.size W w' from hA ▸ impl_format a W (by omega) (by omega) h)
    have CU := Lib.hid (fun W (h : HasTab W) => show Calls Tryd.prog 34 #[.int .i64 u] W fun e w' => e = .returned (.string U) ∧ Below W.heap.size W w' from hU ▸ impl_format u W (by omega) (by omega) h)
    show Calls _ _ _ _ fun e w' => e = .returned (.string (kindS k ++ sp ++ nameS s ++ sp ++ (if k = 2 then nameS v else numS v) ++ sp ++ numS i ++ sp ++ numS a ++ sp ++ numS u)) ∧ _
    rw [hK, hN, hI, hA, hU, hV, ← join_six]
    have hlen := join_six_le K N V I A U lK lN lV lI lA lU
    obtain ⟨T, hTT⟩ : ∃ T : ByteArray, ⟨(Lib.join ([K, N, V, I, A, U].map (·.data.toList)) (⟨#[32]⟩ : ByteArray).data.toList).toArray⟩ = T := ⟨_, rfl⟩
    have CJ := Lib.hid (fun (b : Nat) (W : World) (hb : b < W.heap.size) (g : W.cell? ⟨b, 0, none⟩ = some (.string K) ∧ W.cell? ⟨b, 1, none⟩ = some (.string N) ∧ W.cell? ⟨b, 2, none⟩ = some (.string V) ∧ W.cell? ⟨b, 3, none⟩ = some (.string I) ∧ W.cell? ⟨b, 4, none⟩ = some (.string A) ∧ W.cell? ⟨b, 5, none⟩ = some (.string U)) =>
      show Calls Tryd.prog 35 #[.slice (some ⟨b, 0, none⟩) 6 6, .string ⟨#[32]⟩] W fun e w' => e = .returned (.string T) ∧ Below W.heap.size W w' from hTT ▸ Tryd.strings_Join b 0 6 [K, N, V, I, A, U] ⟨#[32]⟩ W (by
        intro j x hx
        rw [Nat.zero_add]
        match j, hx with
        | 0, hx => obtain rfl := Option.some.inj hx; exact g.1
        | 1, hx => obtain rfl := Option.some.inj hx; exact g.2.1
        | 2, hx => obtain rfl := Option.some.inj hx; exact g.2.2.1
        | 3, hx => obtain rfl := Option.some.inj hx; exact g.2.2.2.1
        | 4, hx => obtain rfl := Option.some.inj hx; exact g.2.2.2.2.1
        | 5, hx => obtain rfl := Option.some.inj hx; exact g.2.2.2.2.2
        | j + 6, hx => simp at hx) hb (by simp) (by simp) hlen)
    rw [hTT]
    clear hK hN hI hA hU hV hP lK lN lI lA lU lV hlen hTT
    go_enter Tryd.func14, Tryd.ntmps14
    go_wp2_with fail
    obtain ⟨W0, hW0⟩ : ∃ W0 : World, W0 = w.alloc (.cells #[.int .i64 k, .int .i64 s, .int .i64 v, .int .i64 i, .int .i64 a, .int .i64 u] 25) := ⟨_, rfl⟩
    rw [← hW0]
    have hB0 : Below w.heap.size w W0 := by rw [hW0]; go_grown
    have z0 : w.heap.size + 1 ≤ W0.heap.size := by rw [hW0]; simp
    have y0 : W0.cell? ⟨w.heap.size, 0, none⟩ = some (.int .i64 k) := by rw [hW0]; go_simp
    have y1 : W0.cell? ⟨w.heap.size, 1, none⟩ = some (.int .i64 s) := by rw [hW0]; go_simp
    have y2 : W0.cell? ⟨w.heap.size, 2, none⟩ = some (.int .i64 v) := by rw [hW0]; go_simp
    have y3 : W0.cell? ⟨w.heap.size, 3, none⟩ = some (.int .i64 i) := by rw [hW0]; go_simp
    have y4 : W0.cell? ⟨w.heap.size, 4, none⟩ = some (.int .i64 a) := by rw [hW0]; go_simp
    have y5 : W0.cell? ⟨w.heap.size, 5, none⟩ = some (.int .i64 u) := by rw [hW0]; go_simp
    have HS := Lib.hid (fun (w' : World) (hb : Below (w.heap.size + 1) W0 w') => (⟨(hb.cell (p := ⟨w.heap.size, 0, none⟩) (by show w.heap.size < _; omega)).trans y0, (hb.cell (p := ⟨w.heap.size, 1, none⟩) (by show w.heap.size < _; omega)).trans y1, (hb.cell (p := ⟨w.heap.size, 2, none⟩) (by show w.heap.size < _; omega)).trans y2, (hb.cell (p := ⟨w.heap.size, 3, none⟩) (by show w.heap.size < _; omega)).trans y3, (hb.cell (p := ⟨w.heap.size, 4, none⟩) (by show w.heap.size < _; omega)).trans y4, (hb.cell (p := ⟨w.heap.size, 5, none⟩) (by show w.heap.size < _; omega)).trans y5, hb⟩ :
      w'.cell? ⟨w.heap.size, 0, none⟩ = some (.int .i64 k) ∧ w'.cell? ⟨w.heap.size, 1, none⟩ = some (.int .i64 s) ∧ w'.cell? ⟨w.heap.size, 2, none⟩ = some (.int .i64 v) ∧ w'.cell? ⟨w.heap.size, 3, none⟩ = some (.int .i64 i) ∧ w'.cell? ⟨w.heap.size, 4, none⟩ = some (.int .i64 a) ∧ w'.cell? ⟨w.heap.size, 5, none⟩ = some (.int .i64 u) ∧ Below (w.heap.size + 1) W0 w'))
    have HT := Lib.hid (fun (w' : World) (d : Below (w.heap.size + 1) W0 w') => hT.kept (hB0.trans (d.mono (Nat.le_succ _))))
    clear hW0 y0 y1 y2 y3 y4 y5 hT
    refine (C1.out _).mono ?_
    rintro e w1 ⟨rfl, b1⟩
    have d1 : Below (w.heap.size + 1) W0 w1 := b1.mono z0
    have z1 := Nat.le_trans z0 b1.size
    clear b1
    go_upto_region 3 with fail
    have d5 := d1.drew
    have z5 : w.heap.size + 1 ≤ w1.drew.heap.size := z1
    go_region_held3 (fun w' => w'.cell? ⟨w.heap.size, 0, none⟩ = some (.int .i64 k) ∧ w'.cell? ⟨w.heap.size, 1, none⟩ = some (.int .i64 s) ∧ w'.cell? ⟨w.heap.size, 2, none⟩ = some (.int .i64 v) ∧ w'.cell? ⟨w.heap.size, 3, none⟩ = some (.int .i64 i) ∧ w'.cell? ⟨w.heap.size, 4, none⟩ = some (.int .i64 a) ∧ w'.cell? ⟨w.heap.size, 5, none⟩ = some (.int .i64 u) ∧ Below (w.heap.size + 1) W0 w')
      (first | exact HS.out _ d5 | exact HS.out _ d6 | exact HS.out _ d7 | exact HS.out _ d8 | exact HS.out _ d9 | exact HS.out _ d10 | exact HS.out _ d11 | exact HS.out _ (d11.alloc z11 _))
      (first
        | (go_at_call 31; (with_reducible refine (CK.out _).mono ?_); rintro e6 w6 ⟨rfl, b6⟩; have d6 := d5.trans (b6.mono z5); have z6 := Nat.le_trans z5 b6.size)
        | (go_at_call 32; (with_reducible refine (CN.out _ (HT.out _ d6)).mono ?_); rintro e7 w7 ⟨rfl, b7⟩; have d7 := d6.trans (b7.mono z6); have z7 := Nat.le_trans z6 b7.size)
        | (go_at_call 33; (with_reducible refine (CV.out _ (HT.out _ d7)).mono ?_); rintro e8 w8 ⟨rfl, b8⟩; have d8 := d7.trans (b8.mono z7); have z8 := Nat.le_trans z7 b8.size)
        | (go_at_call 34; (with_reducible refine (CI.out _ (HT.out _ d8)).mono ?_); rintro e9 w9 ⟨rfl, b9⟩; have d9 := d8.trans (b9.mono z8); have z9 := Nat.le_trans z8 b9.size)
        | (go_at_call 34; (with_reducible refine (CA.out _ (HT.out _ d9)).mono ?_); rintro e10 w10 ⟨rfl, b10⟩; have d10 := d9.trans (b10.mono z9); have z10 := Nat.le_trans z9 b10.size)
        | (go_at_call 34; (with_reducible refine (CU.out _ (HT.out _ d10)).mono ?_); rintro e11 w11 ⟨rfl, b11⟩; have d11 := d10.trans (b11.mono z10); have z11 := Nat.le_trans z10 b11.size))
    have d12 := d11.alloc z11 (.cells #[.string K, .string N, .string V, .string I, .string A, .string U] 9)
    have z12 : w.heap.size + 1 ≤ (w11.alloc (.cells #[.string K, .string N, .string V, .string I, .string A, .string U] 9)).heap.size := by simp; omega
    go_wp2_with fail
    refine (CJ.out _ _ (by simp) ⟨by go_simp, by go_simp, by go_simp, by go_simp, by go_simp, by go_simp⟩).mono ?_
    rintro e w13 ⟨rfl, b13⟩
    have d13 := d12.trans (b13.mono z12)
    go_wp2
    go_ret
    exact ⟨rfl, hB0.trans (d13.mono (Nat.le_succ _))⟩
  · have e0 : factS f = ⟨#[]⟩ := by unfold factS; rw [if_neg hF]
    have C1 := Lib.hid (fun W => show Calls Tryd.prog 9 #[f.val] W fun e w' => e = .returned (.bool false) ∧ Below W.heap.size W w' from (Bool.not_eq_true _ ▸ hF : factB f = false) ▸ impl_isFact f W)
    rw [e0]
    clear e0 hF
    obtain ⟨k, s, v, i, a, u⟩ := f
    rw [FactD.val_mk] at C1 ⊢
    go_enter Tryd.func14, Tryd.ntmps14
    go_wp2_with fail
    refine (C1.out _).mono ?_
    rintro e w1 ⟨rfl, b1⟩
    have hb := box_below b1
    clear b1
    go_wp2
    go_ret
    exact ⟨rfl, hb⟩
end Go.Proofs.YtdggjjdbbpcncaaDoor
