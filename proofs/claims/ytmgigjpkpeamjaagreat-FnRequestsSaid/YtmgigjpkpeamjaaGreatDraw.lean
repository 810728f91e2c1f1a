/- The draws: what the functions that draw an input from bytes return, and what they leave: they write into their own cursor alone. -/
import Derived.Test.YtmgigjpkpeamjaaGreatMBlk
import Derived.WalkKit
import Derived.ProofKit
import Derived.OpenShut
import Derived.WalkLawsBesides
import Derived.WalkSpells
import Derived.LoopTactic
import Derived.Lib.Hide
import Derived.Below
import Derived.Deep.QuietTactic
import Derived.BigQuiet
import Derived.Outline
namespace Go.Proofs.YtmgigjpkpeamjaaGreat
open Go.ChangeShapes Go.WideShapes Go.ChangeAt Go.RowKit
set_option linter.unusedVariables false

/-- w' is w but for block B and new blocks. -/
structure Only (B : Nat) (w w' : World) : Prop where
  os : w'.os = w.os
  tape : w'.tape = w.tape
  output : w'.output = w.output
  size : w.heap.size ≤ w'.heap.size
  block : ∀ k, k < w.heap.size → k ≠ B → w'.heap[k]? = w.heap[k]?
theorem Only.refl (B : Nat) (w : World) : Only B w w := ⟨rfl, rfl, rfl, Nat.le_refl _, fun _ _ _ => rfl⟩
theorem Only.trans {B : Nat} {a b c : World} (h : Only B a b) (k : Only B b c) : Only B a c :=
  ⟨k.os.trans h.os, k.tape.trans h.tape, k.output.trans h.output, Nat.le_trans h.size k.size, fun i hi hn => (k.block i (Nat.lt_of_lt_of_le hi h.size) hn).trans (h.block i hi hn)⟩
theorem Only.drew {B : Nat} {a w : World} (h : Only B a w) : Only B a w.drew := ⟨h.os, h.tape, h.output, h.size, h.block⟩
theorem Only.drewN {B : Nat} {a w : World} (h : Only B a w) (n : Nat) : Only B a (w.drewN n) := ⟨h.os, h.tape, h.output, h.size, h.block⟩
theorem Only.setCell {B : Nat} {a w : World} (h : Only B a w) (o : Nat) (u : Value) : Only B a (w.setCell ⟨B, o, none⟩ u) :=
  h.trans ⟨rfl, rfl, rfl, by simp [World.setCell], fun k _ hn => Below.heap_setCell _ _ _ _ hn⟩
theorem Only.alloc {B : Nat} {a w : World} (h : Only B a w) (o : Obj) : Only B a (w.alloc o) :=
  h.trans ⟨rfl, rfl, rfl, by simp, fun k hk _ => Below.heap_alloc _ _ _ hk⟩
theorem Only.cell {B : Nat} {w w' : World} (h : Only B w w') {p : Addr} (hp : p.block < w.heap.size) (hn : p.block ≠ B) : w'.cell? p = w.cell? p := World.cell?_of_block (w := w) (h.block p.block hp hn)
theorem Only.below {B C : Nat} {w w' : World} (h : Only B w w') (hC : C ≤ w.heap.size) (hB : C ≤ B) : Below C w w' :=
  ⟨h.os, h.tape, h.output, h.size, fun k hk => h.block k (by omega) (by omega)⟩
theorem Below.only {B : Nat} {w w' : World} (h : Below w.heap.size w w') : Only B w w' :=
  ⟨h.os, h.tape, h.output, h.size, fun k hk _ => h.block k hk⟩

/-- A cursor of the draws in block B, over the bytes z. -/
structure Cur (w : World) (B : Nat) (a : Option Addr) (len cap : Nat) (z : List Int) : Prop where
  lt : B < w.heap.size
  row : IsRow .u8 w a len cap z
  old : ∀ x, a = some x → 0 < cap → x.block < B
  cb : w.cell? ⟨B, 0, none⟩ = some (.slice a len cap)
  ci : ∃ i : Nat, i ≤ len ∧ w.cell? ⟨B, 1, none⟩ = some (.int .i64 (i : Int))
  ch : ∃ h : Int, w.cell? ⟨B, 2, none⟩ = some (.int .i64 h)
  fr : ∀ o, w.frozen? ⟨B, o, none⟩ = false

/-- What is masked is no greater than the mask. -/
theorem and_mask (x : Int) (m : Nat) (hm : m < 4611686018427387904) : ∃ r : Nat, r ≤ m ∧ bits .and .i64 x (m : Int) = (r : Int) := by
  refine ⟨(BitVec.ofInt 64 x).toNat &&& m, Nat.and_le_right, ?_⟩
  have h : ((BitVec.ofInt 64 x).toNat &&& m) ≤ m := Nat.and_le_right
  have e : (BitVec.ofInt 64 (m : Int)).toNat = m := by
    rw [BitVec.ofInt_natCast, BitVec.toNat_ofNat]
    omega
  unfold bits
  show IntKind.i64.wrap (((BitVec.ofInt 64 x &&& BitVec.ofInt 64 (m : Int)).toNat : Nat) : Int) = _
  rw [BitVec.toNat_and, e, IntKind.wrap_i64]
  omega

theorem and255 (x : Int) : ∃ r : Nat, r ≤ 255 ∧ bits .and .i64 x 255 = (r : Int) := and_mask x 255 (by decide)

theorem IsRow.only {B : Nat} {w w' : World} {k : IntKind} {a : Option Addr} {len cap : Nat} {z : List Int} (h : IsRow k w a len cap z) (hB : ∀ x, a = some x → 0 < cap → x.block ≠ B) (hl : ∀ x, a = some x → 0 < cap → x.block < w.heap.size) (ho : Only B w w') : IsRow k w' a len cap z := by
  rcases h with h | ⟨x, rfl, h1, h2, h3, h4, h5⟩
  · exact .inl h
  · refine .inr ⟨x, rfl, h1, h2, h3, fun i hi => ?_, h5⟩
    have hx : ∀ j, (x.add j).block = x.block := fun j => by unfold Addr.add; split <;> rfl
    rw [ho.cell (by rw [hx]; exact hl x rfl (by omega)) (by rw [hx]; exact hB x rfl (by omega))]
    exact h4 i hi
theorem cell_same {w : World} {a : Addr} {u : Value} (h : w.cell? a = some u) (v : Value) : (w.setCell a v).cell? a = some v := World.cell?_setCell_same' w a v (by rw [h]; rfl)
theorem cell_other {w : World} {B i j : Nat} {v : Value} (h : i ≠ j) : (w.setCell ⟨B, i, none⟩ v).cell? ⟨B, j, none⟩ = w.cell? ⟨B, j, none⟩ := by
  have hn : (⟨B, i, none⟩ : Addr) ≠ ⟨B, j, none⟩ := fun e => h (congrArg Addr.off e)
  exact World.cell?_setCell_other _ _ _ _ hn
theorem Cur.step {w w' : World} {B : Nat} {a : Option Addr} {len cap : Nat} {z : List Int} (h : Cur w B a len cap z) (ho : Only B w w')
    (cb : w'.cell? ⟨B, 0, none⟩ = some (.slice a len cap)) (ci : ∃ i : Nat, i ≤ len ∧ w'.cell? ⟨B, 1, none⟩ = some (.int .i64 (i : Int)))
    (ch : ∃ h : Int, w'.cell? ⟨B, 2, none⟩ = some (.int .i64 h)) (fr : ∀ o, w'.frozen? ⟨B, o, none⟩ = false) : Cur w' B a len cap z :=
  ⟨Nat.lt_of_lt_of_le h.lt ho.size, h.row.only (fun x hx hp => by have := h.old x hx hp; omega) (fun x hx hp => Nat.lt_trans (h.old x hx hp) h.lt) ho, h.old, cb, ci, ch, fr⟩
theorem Cur.set2 {w : World} {B : Nat} {a : Option Addr} {len cap : Nat} {z : List Int} (h : Cur w B a len cap z) (n : Int) : Cur (w.setCell ⟨B, 2, none⟩ (.int .i64 n)) B a len cap z := by
  obtain ⟨i, hi, hci⟩ := h.ci
  obtain ⟨g, hg⟩ := h.ch
  refine h.step ((Only.refl _ _).setCell _ _) ?_ ⟨i, hi, ?_⟩ ⟨n, cell_same hg _⟩ (fun o => by rw [World.frozen?_setCell]; exact h.fr o)
  · rw [cell_other (by decide)]; exact h.cb
  · rw [cell_other (by decide)]; exact hci
theorem Cur.set1 {w : World} {B : Nat} {a : Option Addr} {len cap : Nat} {z : List Int} (h : Cur w B a len cap z) (n : Int) (i : Nat) (hn : n = (i : Int)) (hi : i ≤ len) : Cur (w.setCell ⟨B, 1, none⟩ (.int .i64 n)) B a len cap z := by
  subst hn
  obtain ⟨j, hj, hcj⟩ := h.ci
  obtain ⟨g, hg⟩ := h.ch
  refine h.step ((Only.refl _ _).setCell _ _) ?_ ⟨i, hi, cell_same hcj _⟩ ⟨g, ?_⟩ (fun o => by rw [World.frozen?_setCell]; exact h.fr o)
  · rw [cell_other (by decide)]; exact h.cb
  · rw [cell_other (by decide)]; exact hg
theorem Cur.drewN {w : World} {B : Nat} {a : Option Addr} {len cap : Nat} {z : List Int} (h : Cur w B a len cap z) (n : Nat) : Cur (w.drewN n) B a len cap z :=
  h.step ((Only.refl _ _).drewN n) h.cb h.ci h.ch h.fr
theorem Cur.only {w w' : World} {B : Nat} {a : Option Addr} {len cap : Nat} {z : List Int} (h : Cur w B a len cap z) (ho : Below w.heap.size w w') : Cur w' B a len cap z := by
  have hc : ∀ o, w'.cell? ⟨B, o, none⟩ = w.cell? ⟨B, o, none⟩ := fun o => ho.cell (p := ⟨B, o, none⟩) h.lt
  obtain ⟨i, hi, hci⟩ := h.ci
  obtain ⟨g, hg⟩ := h.ch
  exact h.step (Below.only ho) (by rw [hc]; exact h.cb) ⟨i, hi, by rw [hc]; exact hci⟩ ⟨g, by rw [hc]; exact hg⟩ (fun o => by rw [ho.frozen (p := ⟨B, o, none⟩) h.lt]; exact h.fr o)

set_option maxHeartbeats 1000000 in
theorem byte_any (w : World) (B : Nat) (a : Option Addr) (len cap : Nat) (z : List Int) (hc : Cur w B a len cap z) :
    Calls Tryz.prog 38 #[.pointer (some ⟨B, 0, none⟩)] w fun e w' => ∃ x : Nat, x ≤ 255 ∧ e = .returned (.int .i64 (x : Int)) ∧ Only B w w' ∧ Cur w' B a len cap z := by
  have HC := Lib.hid hc
  obtain ⟨hlt, hrow, hold, hcb, ⟨i, hi, hci⟩, ⟨h, hch⟩, hfr⟩ := hc
  have f0 := hfr 0
  have f1 := hfr 1
  have f2 := hfr 2
  clear hfr
  obtain ⟨x, hx, ex⟩ := and255 (bits BinOp.xor IntKind.i64 (wrap64 (wrap64 (h * 6364136223846793005) + 1442695040888963407) / 8589934592) (wrap64 (wrap64 (h * 6364136223846793005) + 1442695040888963407) / 140737488355328))
  have HO := Lib.hid hold
  clear hold
  by_cases hil : i < len
  · obtain ⟨b, off, rfl, hl, hm, hz, hcell, hwf⟩ : ∃ b off, a = some ⟨b, off, none⟩ ∧ len ≤ cap ∧ cap ≤ maxLen ∧ z.length = cap ∧ (∀ j, j < z.length → w.cell? ⟨b, off + j, none⟩ = some (.int .u8 (z.getD j 0))) ∧ ∀ n ∈ z, (Lit.int .u8 n).wf = true := by
      rcases hrow with ⟨_, h0, _⟩ | ⟨x, rfl, h1, h2, h3, h4, h5⟩
      · omega
      · obtain ⟨b, off, rfl, h6⟩ := ints_at h4 (by omega)
        exact ⟨b, off, rfl, h1, h2, h3, h6, h5⟩
    have hbB : b < B := HO.out _ rfl (by omega)
    have hzi := hcell i (by omega)
    have hne : b ≠ B := by omega
    obtain ⟨z0, z1⟩ := range_u8 hwf i
    rw [List.getD_eq_getElem?_getD] at hzi
    generalize z[i]?.getD 0 = zi at hzi z0 z1
    obtain ⟨y, hy, ey⟩ := and255 ((x : Int) + zi)
    unfold maxLen at hm
    clear hcell hwf hrow
    go_enter Tryz.func38, Tryz.ntmps38
    go_wp2
    go_quiet (fail)
    go_wp2
    go_quiet (fail)
    go_wp2
    go_quiet (fail)
    go_wp2
    go_ret
    exact ⟨y, hy, rfl, (((Only.refl _ _).setCell _ _).drewN _).setCell _ _, ((HC.out.set2 _).drewN _).set1 _ (i + 1) (by omega) (by omega)⟩
  · clear hrow
    go_enter Tryz.func38, Tryz.ntmps38
    go_wp2
    go_quiet (fail)
    go_wp2
    go_quiet (fail)
    go_wp2
    go_ret
    exact ⟨x, hx, rfl, (((Only.refl _ _).setCell _ _).drewN _).drewN _, ((HC.out.set2 _).drewN _).drewN _⟩

theorem rem_lt (x : Nat) (n : Int) (h : 1 ≤ n) : ∃ y : Nat, (y : Int) < n ∧ (x : Int) % n = (y : Int) :=
  ⟨((x : Int) % n).toNat, by have := Int.emod_lt_of_pos (x : Int) (show 0 < n by omega); have := Int.emod_nonneg (x : Int) (show n ≠ 0 by omega); omega, by have := Int.emod_nonneg (x : Int) (show n ≠ 0 by omega); omega⟩
theorem below_any (w : World) (B : Nat) (a : Option Addr) (len cap : Nat) (z : List Int) (n : Int) (h0 : 1 ≤ n) (h1 : n ≤ 9223372036854775807) (hc : Cur w B a len cap z) :
    Calls Tryz.prog 17 #[.pointer (some ⟨B, 0, none⟩), .int .i64 n] w fun e w' => ∃ x : Nat, (x : Int) < n ∧ e = .returned (.int .i64 (x : Int)) ∧ Only B w w' ∧ Cur w' B a len cap z := by
  by_cases hs : n ≤ 256
  · go_enter Tryz.func17, Tryz.ntmps17
    go_wp2_with (go_at_call 38; refine (byte_any w B a len cap z hc).mono ?_; rintro e w1 ⟨x, hx, rfl, ho, hc1⟩)
    go_ret
    obtain ⟨y, hy, ey⟩ := rem_lt x n h0
    exact ⟨y, hy, ret_i ey, ho, hc1⟩
  · go_enter Tryz.func17, Tryz.ntmps17
    go_wp2_with fail
    go_at_call 38
    refine (byte_any w B a len cap z hc).mono ?_
    rintro e w1 ⟨x, hx, rfl, ho1, hc1⟩
    go_wp2_with fail
    refine (byte_any w1 B a len cap z hc1).mono ?_
    rintro e w2 ⟨y, hy, rfl, ho2, hc2⟩
    go_wp2_with fail
    refine (byte_any w2 B a len cap z hc2).mono ?_
    rintro e w3 ⟨t, ht, rfl, ho3, hc3⟩
    go_wp2
    go_ret
    obtain ⟨u, hu, eu⟩ := rem_lt (x * 65536 + y * 256 + t) n h0
    exact ⟨u, hu, ret_i (by rw [← eu]; congr 1), (ho1.trans ho2).trans ho3, hc3⟩

theorem once_any (w : World) (B : Nat) (a : Option Addr) (len cap : Nat) (z : List Int) (n : Int) (h0 : 1 ≤ n) (h1 : n ≤ 9223372036854775807) (hc : Cur w B a len cap z) :
    Calls Tryz.prog 16 #[.pointer (some ⟨B, 0, none⟩), .int .i64 n] w fun e w' => ∃ x : Bool, e = .returned (.bool x) ∧ Only B w w' ∧ Cur w' B a len cap z := by
  go_enter Tryz.func16, Tryz.ntmps16
  go_wp2_with (go_at_call 17; refine (below_any w B a len cap z n h0 h1 hc).mono ?_; rintro e w1 ⟨x, hx, rfl, ho, hc1⟩)
  go_ret
  exact ⟨_, rfl, ho, hc1⟩

/-- What a slice of integers in memory holds, elsewhere than in block B. -/
def IntsB (l u : Int) (w : World) (B : Nat) (p : Addr) (n : Nat) : Prop := p.spot = none ∧ p.block < w.heap.size ∧ p.block ≠ B ∧ ∀ i, i < n → ∃ v : Int, l ≤ v ∧ v ≤ u ∧ w.cell? ⟨p.block, p.off + i, none⟩ = some (.int .i64 v)
theorem int_in (l u : Int) (hl : -9223372036854775808 ≤ l) (hu : u ≤ 9223372036854775807) (w : World) (B : Nat) (a : Option Addr) (len cap : Nat) (z : List Int) (p : Addr) (n c : Nat) (h0 : 1 ≤ n) (h1 : n ≤ 1000) (hp : IntsB l u w B p n) (hc : Cur w B a len cap z) :
    Calls Tryz.prog 37 #[.pointer (some ⟨B, 0, none⟩), .slice (some p) n c] w fun e w' => ∃ v : Int, l ≤ v ∧ v ≤ u ∧ e = .returned (.int .i64 v) ∧ Only B w w' ∧ Cur w' B a len cap z := by
  obtain ⟨b, off, spot⟩ := p
  obtain ⟨rfl, hlt, hne, hv⟩ := hp
  have HV := Lib.hid hv
  clear hv
  go_enter Tryz.func37, Tryz.ntmps37
  go_wp2_with (go_at_call 17; refine (below_any w B a len cap z (n : Int) (by omega) (by omega) hc).mono ?_; rintro e w1 ⟨x, hx, rfl, ho, hc1⟩; obtain ⟨v, hv0, hv1, hv⟩ := HV.out x (by omega); have hv2 := (ho.cell (p := ⟨b, off + x, none⟩) hlt hne).trans hv; clear hv; have hx' : x < n := by omega)
  go_ret
  exact ⟨v, hv0, hv1, rfl, ho, hc1⟩
def okIntsB (l u : Int) (vs : List Value) (n : Nat) : Bool := n == vs.length && vs.all fun v => match v with | .int .i64 x => decide (l ≤ x ∧ x ≤ u) | _ => false
theorem ints_litB (l u : Int) (w : World) (B : Nat) (hB : B < w.heap.size) (T : TypeId) (vs : List Value) (n : Nat) (h : okIntsB l u vs n = true) : IntsB l u (w.alloc (.cells vs.toArray T)) B ⟨w.heap.size, 0, none⟩ n := by
  unfold okIntsB at h
  simp only [Bool.and_eq_true, beq_iff_eq, List.all_eq_true] at h
  obtain ⟨rfl, h⟩ := h
  refine ⟨rfl, by simp, by show w.heap.size ≠ B; omega, fun i hi => ?_⟩
  have hv := h _ (List.getElem_mem hi)
  generalize hx : vs[i] = v at hv
  have hcell : (w.alloc (.cells vs.toArray T)).cell? ⟨w.heap.size, 0 + i, none⟩ = some v := by
    rw [World.cell?_alloc_new]
    simp [hi, hx]
  split at hv
  · rename_i x
    have hb := of_decide_eq_true hv
    exact ⟨x, hb.1, hb.2, hcell⟩
  · cases hv
/-- The same, of integers that are no more than integers. -/
def Ints (w : World) (B : Nat) (p : Addr) (n : Nat) : Prop := IntsB (-9223372036854775808) 9223372036854775807 w B p n
def okInts (vs : List Value) (n : Nat) : Bool := okIntsB (-9223372036854775808) 9223372036854775807 vs n
theorem ints_lit (w : World) (B : Nat) (hB : B < w.heap.size) (T : TypeId) (vs : List Value) (n : Nat) (h : okInts vs n = true) : Ints (w.alloc (.cells vs.toArray T)) B ⟨w.heap.size, 0, none⟩ n := ints_litB _ _ w B hB T vs n h
theorem int_any (w : World) (B : Nat) (a : Option Addr) (len cap : Nat) (z : List Int) (p : Addr) (n c : Nat) (h0 : 1 ≤ n) (h1 : n ≤ 1000) (hp : Ints w B p n) (hc : Cur w B a len cap z) :
    Calls Tryz.prog 37 #[.pointer (some ⟨B, 0, none⟩), .slice (some p) n c] w fun e w' => ∃ v : Int, -9223372036854775808 ≤ v ∧ v ≤ 9223372036854775807 ∧ e = .returned (.int .i64 v) ∧ Only B w w' ∧ Cur w' B a len cap z :=
  int_in _ _ (by decide) (by decide) w B a len cap z p n c h0 h1 hp hc
theorem Cur.alloc {w : World} {B : Nat} {a : Option Addr} {len cap : Nat} {z : List Int} (h : Cur w B a len cap z) (o : Obj) : Cur (w.alloc o) B a len cap z :=
  h.only ((Below.refl _ _).alloc (Nat.le_refl _) o)

theorem cur_new (w : World) (a : Option Addr) (len cap : Nat) (z : List Int) (T : TypeId) (h : Int) (hr : IsRow .u8 w a len cap z) (hold : ∀ x, a = some x → 0 < cap → x.block < w.heap.size) :
    Cur (w.alloc (.cells #[.slice a len cap, .int .i64 0, .int .i64 h] T)) w.heap.size a len cap z := by
  refine ⟨by simp, hr.only (B := w.heap.size) (fun x hx hp => by have := hold x hx hp; omega) hold ((Only.refl _ _).alloc _), hold, ?_, ⟨0, Nat.zero_le _, ?_⟩, ⟨h, ?_⟩, fun o => ?_⟩
  · rw [World.cell?_alloc_new]; rfl
  · rw [World.cell?_alloc_new]; rfl
  · rw [World.cell?_alloc_new]; rfl
  · go_simp
set_option maxRecDepth 10000 in
theorem new_any (w : World) (a : Option Addr) (len cap : Nat) (z : List Int) (hr : IsRow .u8 w a len cap z) :
    Calls Tryz.prog 13 #[.slice a len cap] w fun e w' => ∃ B : Nat, e = .returned (.pointer (some ⟨B, 0, none⟩)) ∧ w.heap.size ≤ B ∧ Below w.heap.size w w' ∧ Cur w' B a len cap z := by
  have HR := Lib.hid hr
  have HO := Lib.hid hr.lt
  rcases hr with ⟨rfl, rfl, rfl, rfl⟩ | ⟨x, rfl, h1, h2, h3, h4, h5⟩
  · go_enter Tryz.func13, Tryz.ntmps13
    go_wp2
    go_loop [3, 4] (fun h i => ∃ n : Int, h = .int .i64 n ∧ i = .int .i64 0) (fun _ _ => 0)
    case atStart => exact ⟨_, rfl, rfl⟩
    case round =>
      obtain ⟨n, rfl, rfl⟩ := hrel
      go_wp2
      go_ret
      exact ⟨w.heap.size, rfl, Nat.le_refl _, (Below.refl _ _).alloc (Nat.le_refl _) _, cur_new _ _ _ _ _ _ _ HR.out HO.out⟩
  · unfold maxLen at h2
    go_enter Tryz.func13, Tryz.ntmps13
    go_wp2
    go_loop [3, 4] (fun h i => ∃ (n : Int) (k : Nat), k ≤ len ∧ h = .int .i64 n ∧ i = .int .i64 (k : Int)) (fun _ i => len - (intOf i).toNat)
    case atStart => exact ⟨_, 0, Nat.zero_le _, rfl, rfl⟩
    case round =>
      obtain ⟨n, k, hk, rfl, rfl⟩ := hrel
      by_cases hlt : k < len
      · obtain ⟨b, off, rfl, h6⟩ := ints_at h4 (by omega)
        have hc := h6 k (by omega)
        obtain ⟨z0, z1⟩ := range_u8 h5 k
        rw [List.getD_eq_getElem?_getD] at hc
        generalize z[k]?.getD 0 = zk at hc z0 z1
        clear h6 h4 h5
        by_cases h4k : (k : Int) < 4000
        · go_wp2
          go_round
          case rel => exact ⟨_, k + 1, by omega, rfl, by go_num⟩
          case measure => simp [intOf]; omega
        · go_wp2
          go_ret
          exact ⟨w.heap.size, rfl, Nat.le_refl _, (Below.refl _ _).alloc (Nat.le_refl _) _, cur_new _ _ _ _ _ _ _ HR.out HO.out⟩
      · go_wp2
        go_ret
        exact ⟨w.heap.size, rfl, Nat.le_refl _, (Below.refl _ _).alloc (Nat.le_refl _) _, cur_new _ _ _ _ _ _ _ HR.out HO.out⟩
/-- What a slice of strings in memory holds, elsewhere than in block B. -/
def Strs (w : World) (B : Nat) (p : Addr) (n : Nat) : Prop := p.spot = none ∧ p.block < w.heap.size ∧ p.block ≠ B ∧ ∀ i, i < n → ∃ v : ByteArray, v.size ≤ 1048576 ∧ w.cell? ⟨p.block, p.off + i, none⟩ = some (.string v)
def okStrs (vs : List Value) (n : Nat) : Bool := n == vs.length && vs.all fun v => match v with | .string x => decide (x.size ≤ 1048576) | _ => false
theorem strs_lit (w : World) (B : Nat) (hB : B < w.heap.size) (T : TypeId) (vs : List Value) (n : Nat) (h : okStrs vs n = true) : Strs (w.alloc (.cells vs.toArray T)) B ⟨w.heap.size, 0, none⟩ n := by
  unfold okStrs at h
  simp only [Bool.and_eq_true, beq_iff_eq, List.all_eq_true] at h
  obtain ⟨rfl, h⟩ := h
  refine ⟨rfl, by simp, by show w.heap.size ≠ B; omega, fun i hi => ?_⟩
  have hv := h _ (List.getElem_mem hi)
  generalize hx : vs[i] = v at hv
  have hcell : (w.alloc (.cells vs.toArray T)).cell? ⟨w.heap.size, 0 + i, none⟩ = some v := by
    rw [World.cell?_alloc_new]
    simp [hi, hx]
  split at hv
  · rename_i x
    exact ⟨x, of_decide_eq_true hv, hcell⟩
  · cases hv
end Go.Proofs.YtmgigjpkpeamjaaGreat
