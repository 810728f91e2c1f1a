/- Some texts in one: Draw, Loc, DrawN, Var, Enc, Draw2, Draw3, Draw4, Names, Names2, Draw5, Draw12. -/
import Derived.Test.YtjfmmingkciapaaDoorGround
import Derived.WalkKit
import Derived.ProofKit
import Derived.OpenShut
import Derived.WalkLawsBesides
import Derived.WalkSpells
import Derived.LoopTactic
import Derived.Lib.Hide
import Derived.Below
import Derived.Deep.QuietTactic
import Derived.BigQuiet
import Derived.Outline
import Derived.Handy
import Derived.Laws.BitsLemmas
import Derived.Deep.RegionWith
import Derived.Deep.DeepCutAuto
/- The draws: what the functions that draw an input from bytes return, and what they leave: they write into their own cursor alone. -/
namespace Go.Proofs.YtjfmmingkciapaaDoor
open Go.ChangeShapes Go.WideShapes Go.ChangeAt Go.RowKit
set_option linter.unusedVariables false

/-- w' is w but for block B and new blocks. -/
structure Only (B : Nat) (w w' : World) : Prop where
  os : w'.os = w.os
  tape : w'.tape = w.tape
  output : w'.output = w.output
  size : w.heap.size ≤ w'.heap.size
  block : ∀ k, k < w.heap.size → k ≠ B → w'.heap[k]? = w.heap[k]?
theorem Only.refl (B : Nat) (w : World) : Only B w w := ⟨rfl, rfl, rfl, Nat.le_refl _, fun _ _ _ => rfl⟩
theorem Only.trans {B : Nat} {a b c : World} (h : Only B a b) (k : Only B b c) : Only B a c :=
  ⟨k.os.trans h.os, k.tape.trans h.tape, k.output.trans h.output, Nat.le_trans h.size k.size, fun i hi hn => (k.block i (Nat.lt_of_lt_of_le hi h.size) hn).trans (h.block i hi hn)⟩
theorem Only.drew {B : Nat} {a w : World} (h : Only B a w) : Only B a w.drew := ⟨h.os, h.tape, h.output, h.size, h.block⟩
theorem Only.drewN {B : Nat} {a w : World} (h : Only B a w) (n : Nat) : Only B a (w.drewN n) := ⟨h.os, h.tape, h.output, h.size, h.block⟩
theorem Only.setCell {B : Nat} {a w : World} (h : Only B a w) (o : Nat) (u : Value) : Only B a (w.setCell ⟨B, o, none⟩ u) :=
  h.trans ⟨rfl, rfl, rfl, by simp [World.setCell], fun k _ hn => Below.heap_setCell _ _ _ _ hn⟩
theorem Only.alloc {B : Nat} {a w : World} (h : Only B a w) (o : Obj) : Only B a (w.alloc o) :=
  h.trans ⟨rfl, rfl, rfl, by simp, fun k hk _ => Below.heap_alloc _ _ _ hk⟩
theorem Only.cell {B : Nat} {w w' : World} (h : Only B w w') {p : Addr} (hp : p.block < w.heap.size) (hn : p.block ≠ B) : w'.cell? p = w.cell? p := World.cell?_of_block (w := w) (h.block p.block hp hn)
theorem Only.below {B C : Nat} {w w' : World} (h : Only B w w') (hC : C ≤ w.heap.size) (hB : C ≤ B) : Below C w w' :=
  ⟨h.os, h.tape, h.output, h.size, fun k hk => h.block k (by omega) (by omega)⟩
theorem Below.only {B : Nat} {w w' : World} (h : Below w.heap.size w w') : Only B w w' :=
  ⟨h.os, h.tape, h.output, h.size, fun k hk _ => h.block k hk⟩

/-- A cursor of the draws in block B, over the bytes z. -/
structure Cur (w : World) (B : Nat) (a : Option Addr) (len cap : Nat) (z : List Int) : Prop where
  lt : B < w.heap.size
  row : IsRow .u8 w a len cap z
  old : ∀ x, a = some x → 0 < cap → x.block < B
  cb : w.cell? ⟨B, 0, none⟩ = some (.slice a len cap)
  ci : ∃ i : Nat, i ≤ len ∧ w.cell? ⟨B, 1, none⟩ = some (.int .i64 (i : Int))
  ch : ∃ h : Int, w.cell? ⟨B, 2, none⟩ = some (.int .i64 h)
  fr : ∀ o, w.frozen? ⟨B, o, none⟩ = false

/-- What is masked is no greater than the mask. -/
theorem and_mask (x : Int) (m : Nat) (hm : m < 4611686018427387904) : ∃ r : Nat, r ≤ m ∧ bits .and .i64 x (m : Int) = (r : Int) := by
  refine ⟨(BitVec.ofInt 64 x).toNat &&& m, Nat.and_le_right, ?_⟩
  have h : ((BitVec.ofInt 64 x).toNat &&& m) ≤ m := Nat.and_le_right
  have e : (BitVec.ofInt 64 (m : Int)).toNat = m := by
    rw [BitVec.ofInt_natCast, BitVec.toNat_ofNat]
    omega
  unfold bits
  show IntKind.i64.wrap (((BitVec.ofInt 64 x &&& BitVec.ofInt 64 (m : Int)).toNat : Nat) : Int) = _
  rw [BitVec.toNat_and, e, IntKind.wrap_i64]
  omega

theorem and255 (x : Int) : ∃ r : Nat, r ≤ 255 ∧ bits .and .i64 x 255 = (r : Int) := and_mask x 255 (by decide)

theorem IsRow.only {B : Nat} {w w' : World} {k : IntKind} {a : Option Addr} {len cap : Nat} {z : List Int} (h : IsRow k w a len cap z) (hB : ∀ x, a = some x → 0 < cap → x.block ≠ B) (hl : ∀ x, a = some x → 0 < cap → x.block < w.heap.size) (ho : Only B w w') : IsRow k w' a len cap z := by
  rcases h with h | ⟨x, rfl, h1, h2, h3, h4, h5⟩
  · exact .inl h
  · refine .inr ⟨x, rfl, h1, h2, h3, fun i hi => ?_, h5⟩
    have hx : ∀ j, (x.add j).block = x.block := fun j => by unfold Addr.add; split <;> rfl
    rw [ho.cell (by rw [hx]; exact hl x rfl (by omega)) (by rw [hx]; exact hB x rfl (by omega))]
    exact h4 i hi
theorem cell_same {w : World} {a : Addr} {u : Value} (h : w.cell? a = some u) (v : Value) : (w.setCell a v).cell? a = some v := World.cell?_setCell_same' w a v (by rw [h]; rfl)
theorem cell_other {w : World} {B i j : Nat} {v : Value} (h : i ≠ j) : (w.setCell ⟨B, i, none⟩ v).cell? ⟨B, j, none⟩ = w.cell? ⟨B, j, none⟩ := by
  have hn : (⟨B, i, none⟩ : Addr) ≠ ⟨B, j, none⟩ := fun e => h (congrArg Addr.off e)
  exact World.cell?_setCell_other _ _ _ _ hn
theorem Cur.step {w w' : World} {B : Nat} {a : Option Addr} {len cap : Nat} {z : List Int} (h : Cur w B a len cap z) (ho : Only B w w')
    (cb : w'.cell? ⟨B, 0, none⟩ = some (.slice a len cap)) (ci : ∃ i : Nat, i ≤ len ∧ w'.cell? ⟨B, 1, none⟩ = some (.int .i64 (i : Int)))
    (ch : ∃ h : Int, w'.cell? ⟨B, 2, none⟩ = some (.int .i64 h)) (fr : ∀ o, w'.frozen? ⟨B, o, none⟩ = false) : Cur w' B a len cap z :=
  ⟨Nat.lt_of_lt_of_le h.lt ho.size, h.row.only (fun x hx hp => by have := h.old x hx hp; omega) (fun x hx hp => Nat.lt_trans (h.old x hx hp) h.lt) ho, h.old, cb, ci, ch, fr⟩
theorem Cur.set2 {w : World} {B : Nat} {a : Option Addr} {len cap : Nat} {z : List Int} (h : Cur w B a len cap z) (n : Int) : Cur (w.setCell ⟨B, 2, none⟩ (.int .i64 n)) B a len cap z := by
  obtain ⟨i, hi, hci⟩ := h.ci
  obtain ⟨g, hg⟩ := h.ch
  refine h.step ((Only.refl _ _).setCell _ _) ?_ ⟨i, hi, ?_⟩ ⟨n, cell_same hg _⟩ (fun o => by rw [World.frozen?_setCell]; exact h.fr o)
  · rw [cell_other (by decide)]; exact h.cb
  · rw [cell_other (by decide)]; exact hci
theorem Cur.set1 {w : World} {B : Nat} {a : Option Addr} {len cap : Nat} {z : List Int} (h : Cur w B a len cap z) (n : Int) (i : Nat) (hn : n = (i : Int)) (hi : i ≤ len) : Cur (w.setCell ⟨B, 1, none⟩ (.int .i64 n)) B a len cap z := by
  subst hn
  obtain ⟨j, hj, hcj⟩ := h.ci
  obtain ⟨g, hg⟩ := h.ch
  refine h.step ((Only.refl _ _).setCell _ _) ?_ ⟨i, hi, cell_same hcj _⟩ ⟨g, ?_⟩ (fun o => by rw [World.frozen?_setCell]; exact h.fr o)
  · rw [cell_other (by decide)]; exact h.cb
  · rw [cell_other (by decide)]; exact hg
theorem Cur.drewN {w : World} {B : Nat} {a : Option Addr} {len cap : Nat} {z : List Int} (h : Cur w B a len cap z) (n : Nat) : Cur (w.drewN n) B a len cap z :=
  h.step ((Only.refl _ _).drewN n) h.cb h.ci h.ch h.fr
theorem Cur.only {w w' : World} {B : Nat} {a : Option Addr} {len cap : Nat} {z : List Int} (h : Cur w B a len cap z) (ho : Below w.heap.size w w') : Cur w' B a len cap z := by
  have hc : ∀ o, w'.cell? ⟨B, o, none⟩ = w.cell? ⟨B, o, none⟩ := fun o => ho.cell (p := ⟨B, o, none⟩) h.lt
  obtain ⟨i, hi, hci⟩ := h.ci
  obtain ⟨g, hg⟩ := h.ch
  exact h.step (Below.only ho) (by rw [hc]; exact h.cb) ⟨i, hi, by rw [hc]; exact hci⟩ ⟨g, by rw [hc]; exact hg⟩ (fun o => by rw [ho.frozen (p := ⟨B, o, none⟩) h.lt]; exact h.fr o)

set_option maxHeartbeats 1000000 in
theorem byte_any (w : World) (B : Nat) (a : Option Addr) (len cap : Nat) (z : List Int) (hc : Cur w B a len cap z) :
    Calls Tryd.prog 46 #[.pointer (some ⟨B, 0, none⟩)] w fun e w' => ∃ x : Nat, x ≤ 255 ∧ e = .returned (.int .i64 (x : Int)) ∧ Only B w w' ∧ Cur w' B a len cap z := by
  have HC := Lib.hid hc
  obtain ⟨hlt, hrow, hold, hcb, ⟨i, hi, hci⟩, ⟨h, hch⟩, hfr⟩ := hc
  have f0 := hfr 0
  have f1 := hfr 1
  have f2 := hfr 2
  clear hfr
  obtain ⟨x, hx, ex⟩ := and255 (bits BinOp.xor IntKind.i64 (wrap64 (wrap64 (h * 6364136223846793005) + 1442695040888963407) / 8589934592) (wrap64 (wrap64 (h * 6364136223846793005) + 1442695040888963407) / 140737488355328))
  have HO := Lib.hid hold
  clear hold
  by_cases hil : i < len
  · obtain ⟨b, off, rfl, hl, hm, hz, hcell, hwf⟩ : ∃ b off, a = some ⟨b, off, none⟩ ∧ len ≤ cap ∧ cap ≤ maxLen ∧ z.length = cap ∧ (∀ j, j < z.length → w.cell? ⟨b, off + j, none⟩ = some (.int .u8 (z.getD j 0))) ∧ ∀ n ∈ z, (Lit.int .u8 n).wf = true := by
      rcases hrow with ⟨_, h0, _⟩ | ⟨x, rfl, h1, h2, h3, h4, h5⟩
      · omega
      · obtain ⟨b, off, rfl, h6⟩ := ints_at h4 (by omega)
        exact ⟨b, off, rfl, h1, h2, h3, h6, h5⟩
    have hbB : b < B := HO.out _ rfl (by omega)
    have hzi := hcell i (by omega)
    have hne : b ≠ B := by omega
    obtain ⟨z0, z1⟩ := range_u8 hwf i
    rw [List.getD_eq_getElem?_getD] at hzi
    generalize z[i]?.getD 0 = zi at hzi z0 z1
    obtain ⟨y, hy, ey⟩ := and255 ((x : Int) + zi)
    unfold maxLen at hm
    clear hcell hwf hrow
    go_enter Tryd.func46, Tryd.ntmps46
    go_wp2
    go_quiet (fail)
    go_wp2
    go_quiet (fail)
    go_wp2
    go_quiet (fail)
    go_wp2
    go_ret
    exact ⟨y, hy, rfl, (((Only.refl _ _).setCell _ _).drewN _).setCell _ _, ((HC.out.set2 _).drewN _).set1 _ (i + 1) (by omega) (by omega)⟩
  · clear hrow
    go_enter Tryd.func46, Tryd.ntmps46
    go_wp2
    go_quiet (fail)
    go_wp2
    go_quiet (fail)
    go_wp2
    go_ret
    exact ⟨x, hx, rfl, (((Only.refl _ _).setCell _ _).drewN _).drewN _, ((HC.out.set2 _).drewN _).drewN _⟩

theorem rem_lt (x : Nat) (n : Int) (h : 1 ≤ n) : ∃ y : Nat, (y : Int) < n ∧ (x : Int) % n = (y : Int) :=
  ⟨((x : Int) % n).toNat, by have := Int.emod_lt_of_pos (x : Int) (show 0 < n by omega); have := Int.emod_nonneg (x : Int) (show n ≠ 0 by omega); omega, by have := Int.emod_nonneg (x : Int) (show n ≠ 0 by omega); omega⟩
theorem below_any (w : World) (B : Nat) (a : Option Addr) (len cap : Nat) (z : List Int) (n : Int) (h0 : 1 ≤ n) (h1 : n ≤ 9223372036854775807) (hc : Cur w B a len cap z) :
    Calls Tryd.prog 32 #[.pointer (some ⟨B, 0, none⟩), .int .i64 n] w fun e w' => ∃ x : Nat, (x : Int) < n ∧ e = .returned (.int .i64 (x : Int)) ∧ Only B w w' ∧ Cur w' B a len cap z := by
  by_cases hs : n ≤ 256
  · go_enter Tryd.func32, Tryd.ntmps32
    go_wp2_with (go_at_call 46; refine (byte_any w B a len cap z hc).mono ?_; rintro e w1 ⟨x, hx, rfl, ho, hc1⟩)
    go_ret
    obtain ⟨y, hy, ey⟩ := rem_lt x n h0
    exact ⟨y, hy, ret_i ey, ho, hc1⟩
  · go_enter Tryd.func32, Tryd.ntmps32
    go_wp2_with fail
    go_at_call 46
    refine (byte_any w B a len cap z hc).mono ?_
    rintro e w1 ⟨x, hx, rfl, ho1, hc1⟩
    go_wp2_with fail
    refine (byte_any w1 B a len cap z hc1).mono ?_
    rintro e w2 ⟨y, hy, rfl, ho2, hc2⟩
    go_wp2_with fail
    refine (byte_any w2 B a len cap z hc2).mono ?_
    rintro e w3 ⟨t, ht, rfl, ho3, hc3⟩
    go_wp2
    go_ret
    obtain ⟨u, hu, eu⟩ := rem_lt (x * 65536 + y * 256 + t) n h0
    exact ⟨u, hu, ret_i (by rw [← eu]; congr 1), (ho1.trans ho2).trans ho3, hc3⟩


/-- What a slice of integers in memory holds, elsewhere than in block B. -/
def IntsB (l u : Int) (w : World) (B : Nat) (p : Addr) (n : Nat) : Prop := p.spot = none ∧ p.block < w.heap.size ∧ p.block ≠ B ∧ ∀ i, i < n → ∃ v : Int, l ≤ v ∧ v ≤ u ∧ w.cell? ⟨p.block, p.off + i, none⟩ = some (.int .i64 v)
theorem int_in (l u : Int) (hl : -9223372036854775808 ≤ l) (hu : u ≤ 9223372036854775807) (w : World) (B : Nat) (a : Option Addr) (len cap : Nat) (z : List Int) (p : Addr) (n c : Nat) (h0 : 1 ≤ n) (h1 : n ≤ 1000) (hp : IntsB l u w B p n) (hc : Cur w B a len cap z) :
    Calls Tryd.prog 24 #[.pointer (some ⟨B, 0, none⟩), .slice (some p) n c] w fun e w' => ∃ v : Int, l ≤ v ∧ v ≤ u ∧ e = .returned (.int .i64 v) ∧ Only B w w' ∧ Cur w' B a len cap z := by
  obtain ⟨b, off, spot⟩ := p
  obtain ⟨rfl, hlt, hne, hv⟩ := hp
  have HV := Lib.hid hv
  clear hv
  go_enter Tryd.func24, Tryd.ntmps24
  go_wp2_with (go_at_call 32; refine (below_any w B a len cap z (n : Int) (by omega) (by omega) hc).mono ?_; rintro e w1 ⟨x, hx, rfl, ho, hc1⟩; obtain ⟨v, hv0, hv1, hv⟩ := HV.out x (by omega); have hv2 := (ho.cell (p := ⟨b, off + x, none⟩) hlt hne).trans hv; clear hv; have hx' : x < n := by omega)
  go_ret
  exact ⟨v, hv0, hv1, rfl, ho, hc1⟩
def okIntsB (l u : Int) (vs : List Value) (n : Nat) : Bool := n == vs.length && vs.all fun v => match v with | .int .i64 x => decide (l ≤ x ∧ x ≤ u) | _ => false
theorem ints_litB (l u : Int) (w : World) (B : Nat) (hB : B < w.heap.size) (T : TypeId) (vs : List Value) (n : Nat) (h : okIntsB l u vs n = true) : IntsB l u (w.alloc (.cells vs.toArray T)) B ⟨w.heap.size, 0, none⟩ n := by
  unfold okIntsB at h
  simp only [Bool.and_eq_true, beq_iff_eq, List.all_eq_true] at h
  obtain ⟨rfl, h⟩ := h
  refine ⟨rfl, by simp, by show w.heap.size ≠ B; omega, fun i hi => ?_⟩
  have hv := h _ (List.getElem_mem hi)
  generalize hx : vs[i] = v at hv
  have hcell : (w.alloc (.cells vs.toArray T)).cell? ⟨w.heap.size, 0 + i, none⟩ = some v := by
    rw [World.cell?_alloc_new]
    simp [hi, hx]
  split at hv
  · rename_i x
    have hb := of_decide_eq_true hv
    exact ⟨x, hb.1, hb.2, hcell⟩
  · cases hv
/-- The same, of integers that are no more than integers. -/
def Ints (w : World) (B : Nat) (p : Addr) (n : Nat) : Prop := IntsB (-9223372036854775808) 9223372036854775807 w B p n
def okInts (vs : List Value) (n : Nat) : Bool := okIntsB (-9223372036854775808) 9223372036854775807 vs n
theorem ints_lit (w : World) (B : Nat) (hB : B < w.heap.size) (T : TypeId) (vs : List Value) (n : Nat) (h : okInts vs n = true) : Ints (w.alloc (.cells vs.toArray T)) B ⟨w.heap.size, 0, none⟩ n := ints_litB _ _ w B hB T vs n h
theorem int_any (w : World) (B : Nat) (a : Option Addr) (len cap : Nat) (z : List Int) (p : Addr) (n c : Nat) (h0 : 1 ≤ n) (h1 : n ≤ 1000) (hp : Ints w B p n) (hc : Cur w B a len cap z) :
    Calls Tryd.prog 24 #[.pointer (some ⟨B, 0, none⟩), .slice (some p) n c] w fun e w' => ∃ v : Int, -9223372036854775808 ≤ v ∧ v ≤ 9223372036854775807 ∧ e = .returned (.int .i64 v) ∧ Only B w w' ∧ Cur w' B a len cap z :=
  int_in _ _ (by decide) (by decide) w B a len cap z p n c h0 h1 hp hc
theorem Cur.alloc {w : World} {B : Nat} {a : Option Addr} {len cap : Nat} {z : List Int} (h : Cur w B a len cap z) (o : Obj) : Cur (w.alloc o) B a len cap z :=
  h.only ((Below.refl _ _).alloc (Nat.le_refl _) o)

theorem cur_new (w : World) (a : Option Addr) (len cap : Nat) (z : List Int) (T : TypeId) (h : Int) (hr : IsRow .u8 w a len cap z) (hold : ∀ x, a = some x → 0 < cap → x.block < w.heap.size) :
    Cur (w.alloc (.cells #[.slice a len cap, .int .i64 0, .int .i64 h] T)) w.heap.size a len cap z := by
  refine ⟨by simp, hr.only (B := w.heap.size) (fun x hx hp => by have := hold x hx hp; omega) hold ((Only.refl _ _).alloc _), hold, ?_, ⟨0, Nat.zero_le _, ?_⟩, ⟨h, ?_⟩, fun o => ?_⟩
  · rw [World.cell?_alloc_new]; rfl
  · rw [World.cell?_alloc_new]; rfl
  · rw [World.cell?_alloc_new]; rfl
  · go_simp
set_option maxRecDepth 10000 in
theorem new_any (w : World) (a : Option Addr) (len cap : Nat) (z : List Int) (hr : IsRow .u8 w a len cap z) :
    Calls Tryd.prog 16 #[.slice a len cap] w fun e w' => ∃ B : Nat, e = .returned (.pointer (some ⟨B, 0, none⟩)) ∧ w.heap.size ≤ B ∧ Below w.heap.size w w' ∧ Cur w' B a len cap z := by
  have HR := Lib.hid hr
  have HO := Lib.hid hr.lt
  rcases hr with ⟨rfl, rfl, rfl, rfl⟩ | ⟨x, rfl, h1, h2, h3, h4, h5⟩
  · go_enter Tryd.func16, Tryd.ntmps16
    go_wp2
    go_loop [3, 4] (fun h i => ∃ n : Int, h = .int .i64 n ∧ i = .int .i64 0) (fun _ _ => 0)
    case atStart => exact ⟨_, rfl, rfl⟩
    case round =>
      obtain ⟨n, rfl, rfl⟩ := hrel
      go_wp2
      go_ret
      exact ⟨w.heap.size, rfl, Nat.le_refl _, (Below.refl _ _).alloc (Nat.le_refl _) _, cur_new _ _ _ _ _ _ _ HR.out HO.out⟩
  · unfold maxLen at h2
    go_enter Tryd.func16, Tryd.ntmps16
    go_wp2
    go_loop [3, 4] (fun h i => ∃ (n : Int) (k : Nat), k ≤ len ∧ h = .int .i64 n ∧ i = .int .i64 (k : Int)) (fun _ i => len - (intOf i).toNat)
    case atStart => exact ⟨_, 0, Nat.zero_le _, rfl, rfl⟩
    case round =>
      obtain ⟨n, k, hk, rfl, rfl⟩ := hrel
      by_cases hlt : k < len
      · obtain ⟨b, off, rfl, h6⟩ := ints_at h4 (by omega)
        have hc := h6 k (by omega)
        obtain ⟨z0, z1⟩ := range_u8 h5 k
        rw [List.getD_eq_getElem?_getD] at hc
        generalize z[k]?.getD 0 = zk at hc z0 z1
        clear h6 h4 h5
        by_cases h4k : (k : Int) < 4000
        · go_wp2
          go_round
          case rel => exact ⟨_, k + 1, by omega, rfl, by go_num⟩
          case measure => simp [intOf]; omega
        · go_wp2
          go_ret
          exact ⟨w.heap.size, rfl, Nat.le_refl _, (Below.refl _ _).alloc (Nat.le_refl _) _, cur_new _ _ _ _ _ _ _ HR.out HO.out⟩
      · go_wp2
        go_ret
        exact ⟨w.heap.size, rfl, Nat.le_refl _, (Below.refl _ _).alloc (Nat.le_refl _) _, cur_new _ _ _ _ _ _ _ HR.out HO.out⟩
/-- What a slice of strings in memory holds, elsewhere than in block B. -/
def Strs (w : World) (B : Nat) (p : Addr) (n : Nat) : Prop := p.spot = none ∧ p.block < w.heap.size ∧ p.block ≠ B ∧ ∀ i, i < n → ∃ v : ByteArray, v.size ≤ 1048576 ∧ w.cell? ⟨p.block, p.off + i, none⟩ = some (.string v)
def okStrs (vs : List Value) (n : Nat) : Bool := n == vs.length && vs.all fun v => match v with | .string x => decide (x.size ≤ 1048576) | _ => false
theorem strs_lit (w : World) (B : Nat) (hB : B < w.heap.size) (T : TypeId) (vs : List Value) (n : Nat) (h : okStrs vs n = true) : Strs (w.alloc (.cells vs.toArray T)) B ⟨w.heap.size, 0, none⟩ n := by
  unfold okStrs at h
  simp only [Bool.and_eq_true, beq_iff_eq, List.all_eq_true] at h
  obtain ⟨rfl, h⟩ := h
  refine ⟨rfl, by simp, by show w.heap.size ≠ B; omega, fun i hi => ?_⟩
  have hv := h _ (List.getElem_mem hi)
  generalize hx : vs[i] = v at hv
  have hcell : (w.alloc (.cells vs.toArray T)).cell? ⟨w.heap.size, 0 + i, none⟩ = some v := by
    rw [World.cell?_alloc_new]
    simp [hi, hx]
  split at hv
  · rename_i x
    exact ⟨x, of_decide_eq_true hv, hcell⟩
  · cases hv
end Go.Proofs.YtjfmmingkciapaaDoor
/- A struct of the call's own in a block of its own, while draws go on beside it: what it holds, what is kept. No condition; any program. -/
namespace Go.Proofs.YtjfmmingkciapaaDoor
open Go.ChangeShapes Go.WideShapes Go.ChangeAt Go.RowKit
set_option linter.unusedVariables false

/-- Block f, new since w0, holds the cells cs; all else that was there in w0 is as it was, but for block B. -/
structure Loc (w0 : World) (B f : Nat) (T : TypeId) (cs : Array Value) (w : World) : Prop where
  only : Only B w0 w
  new : w0.heap.size ≤ f
  ne : f ≠ B
  blk : w.heap[f]? = some (.cells cs T)
section
variable {w0 w w' : World} {B f : Nat} {T : TypeId} {cs : Array Value}
theorem Loc.lt (h : Loc w0 B f T cs w) : f < w.heap.size := by
  rcases Nat.lt_or_ge f w.heap.size with hl | hg
  · exact hl
  · have hb := h.blk
    rw [Array.getElem?_eq_none hg] at hb
    cases hb
theorem Loc.cell (h : Loc w0 B f T cs w) (i : Nat) {v : Value} (hv : cs[i]? = some v) : w.cell? ⟨f, i, none⟩ = some v := by
  have hb := h.blk
  simp [World.cell?, hb, hv]
theorem Loc.frozen (h : Loc w0 B f T cs w) (i : Nat) : w.frozen? ⟨f, i, none⟩ = false := by
  have hb := h.blk
  simp [World.frozen?, hb]
theorem Loc.call (h : Loc w0 B f T cs w) (ho : Only B w w') : Loc w0 B f T cs w' :=
  ⟨h.only.trans ho, h.new, h.ne, (ho.block f h.lt h.ne).trans h.blk⟩
theorem Loc.drew (h : Loc w0 B f T cs w) : Loc w0 B f T cs w.drew := ⟨h.only.drew, h.new, h.ne, h.blk⟩
theorem Loc.alloc (h : Loc w0 B f T cs w) (o : Obj) : Loc w0 B f T cs (w.alloc o) := h.call ((Only.refl _ _).alloc o)
theorem Only.setNew (h : Only B w0 w) {p : Addr} (hp : w0.heap.size ≤ p.block) (u : Value) : Only B w0 (w.setCell p u) :=
  ⟨h.os, h.tape, h.output, by simpa [World.setCell] using h.size, fun k hk hn => (Below.heap_setCell w p u k (by omega)).trans (h.block k hk hn)⟩
theorem Loc.set (h : Loc w0 B f T cs w) (i : Nat) (u : Value) : Loc w0 B f T (cs.setIfInBounds i u) (w.setCell ⟨f, i, none⟩ u) := by
  refine ⟨h.only.setNew h.new u, h.new, h.ne, ?_⟩
  have hb := h.blk
  simp [World.setCell, Array.getElem?_modify, hb]
/-- A store into another block of the call's own. -/
theorem Loc.setFar (h : Loc w0 B f T cs w) {g : Nat} (hg : w0.heap.size ≤ g) (hne : f ≠ g) (i : Nat) (u : Value) : Loc w0 B f T cs (w.setCell ⟨g, i, none⟩ u) :=
  ⟨h.only.setNew hg u, h.new, h.ne, (Below.heap_setCell w ⟨g, i, none⟩ u f hne).trans h.blk⟩
theorem Loc.mk_new (h : Only B w0 w) (far : B < w.heap.size) : Loc w0 B w.heap.size T cs (w.alloc (.cells cs T)) :=
  ⟨h.alloc _, h.size, Nat.ne_of_gt far, by show (w.heap.push _)[w.heap.size]? = _; simp⟩
/-- What is below a world's size reads behind a call as before: two rules for the walk. -/
theorem bcell {W w : World} (hb : Below W.heap.size W w) : ∀ b o, b < W.heap.size → w.cell? ⟨b, o, none⟩ = W.cell? ⟨b, o, none⟩ := fun b o h => hb.cell (p := ⟨b, o, none⟩) h
/-- A result's block, laid ahead of the cursor. -/
theorem Loc.early {W : World} (hw : Below w0.heap.size w0 W) (hb : Below W.heap.size W w) (hk : W.heap[f]? = some (.cells cs T)) (hf : w0.heap.size ≤ f) (hl : f < W.heap.size) (hB : W.heap.size ≤ B) : Loc w0 B f T cs w :=
  ⟨Below.only (hw.trans (hb.mono hw.size)), hf, by omega, blk_keep hk hb hl⟩
/-- The cursor is kept by all that turns nothing below a number above it. -/
theorem Cur.keep {C : Nat} {a : Option Addr} {len cap : Nat} {z : List Int} (h : Cur w B a len cap z) (hC : B < C) (hb : Below C w w') : Cur w' B a len cap z := by
  have hc : ∀ o, w'.cell? ⟨B, o, none⟩ = w.cell? ⟨B, o, none⟩ := fun o => hb.cell (p := ⟨B, o, none⟩) hC
  obtain ⟨i, hi, hci⟩ := h.ci
  obtain ⟨g, hg⟩ := h.ch
  refine ⟨Nat.lt_of_lt_of_le h.lt hb.size, ?_, h.old, by rw [hc]; exact h.cb, ⟨i, hi, by rw [hc]; exact hci⟩, ⟨g, by rw [hc]; exact hg⟩, fun o => by rw [hb.frozen (p := ⟨B, o, none⟩) hC]; exact h.fr o⟩
  rcases h.row with h0 | ⟨x, rfl, h1, h2, h3, h4, h5⟩
  · exact .inl h0
  · refine .inr ⟨x, rfl, h1, h2, h3, fun i hi => ?_, h5⟩
    have hx : (x.add i).block = x.block := by unfold Addr.add; split <;> rfl
    rw [hb.cell (by rw [hx]; have := h.old x rfl (by omega); omega)]
    exact h4 i hi
theorem Cur.setFar {a : Option Addr} {len cap : Nat} {z : List Int} (h : Cur w B a len cap z) {g : Nat} (hg : B < g) (i : Nat) (u : Value) : Cur (w.setCell ⟨g, i, none⟩ u) B a len cap z :=
  h.keep (C := g) hg ((Below.refl _ _).setCell (p := ⟨g, i, none⟩) (Nat.le_refl _) u)
/-- A store into one of two blocks of the call's own, the world named anew. -/
theorem store_step {T' : TypeId} {cs' : Array Value} {R : Nat} {a : Option Addr} {len cap : Nat} {z : List Int} (lf : Loc w0 B f T cs w) (lr : Loc w0 B R T' cs' w) (hc : Cur w B a len cap z) (hB : B < w0.heap.size) (hne : R ≠ f) (i : Nat) (u : Value) :
    ∃ W, W = w.setCell ⟨f, i, none⟩ u ∧ Loc w0 B f T (cs.setIfInBounds i u) W ∧ Loc w0 B R T' cs' W ∧ Cur W B a len cap z :=
  ⟨_, rfl, lf.set i u, lr.setFar lf.new hne i u, hc.setFar (Nat.lt_of_lt_of_le hB lf.new) i u⟩
theorem call_step {T' : TypeId} {cs' : Array Value} {R : Nat} (lf : Loc w0 B f T cs w) (lr : Loc w0 B R T' cs' w) (ho : Only B w w') : Loc w0 B f T cs w' ∧ Loc w0 B R T' cs' w' := ⟨lf.call ho, lr.call ho⟩
theorem Loc.cells6 {v0 v1 v2 v3 v4 v5 : Value} (h : Loc w0 B f T #[v0, v1, v2, v3, v4, v5] w) : w.cell? ⟨f, 0, none⟩ = some v0 ∧ w.cell? ⟨f, 1, none⟩ = some v1 ∧ w.cell? ⟨f, 2, none⟩ = some v2 ∧ w.cell? ⟨f, 3, none⟩ = some v3 ∧ w.cell? ⟨f, 4, none⟩ = some v4 ∧ w.cell? ⟨f, 5, none⟩ = some v5 :=
  ⟨h.cell 0 rfl, h.cell 1 rfl, h.cell 2 rfl, h.cell 3 rfl, h.cell 4 rfl, h.cell 5 rfl⟩
theorem Loc.twelve {g : Nat} {T' : TypeId} {v0 v1 v2 v3 v4 v5 u0 u1 u2 u3 u4 u5 : Value} (h : Loc w0 B f T #[v0, v1, v2, v3, v4, v5] w) (k : Loc w0 B g T' #[u0, u1, u2, u3, u4, u5] w) :
    w.cell? ⟨f, 0, none⟩ = some v0 ∧ w.cell? ⟨f, 1, none⟩ = some v1 ∧ w.cell? ⟨f, 2, none⟩ = some v2 ∧ w.cell? ⟨f, 3, none⟩ = some v3 ∧ w.cell? ⟨f, 4, none⟩ = some v4 ∧ w.cell? ⟨f, 5, none⟩ = some v5 ∧
    w.cell? ⟨g, 0, none⟩ = some u0 ∧ w.cell? ⟨g, 1, none⟩ = some u1 ∧ w.cell? ⟨g, 2, none⟩ = some u2 ∧ w.cell? ⟨g, 3, none⟩ = some u3 ∧ w.cell? ⟨g, 4, none⟩ = some u4 ∧ w.cell? ⟨g, 5, none⟩ = some u5 :=
  ⟨h.cell 0 rfl, h.cell 1 rfl, h.cell 2 rfl, h.cell 3 rfl, h.cell 4 rfl, h.cell 5 rfl, k.cell 0 rfl, k.cell 1 rfl, k.cell 2 rfl, k.cell 3 rfl, k.cell 4 rfl, k.cell 5 rfl⟩
end
end Go.Proofs.YtjfmmingkciapaaDoor
/- The draws of numbers: each returns some int, and writes into its own cursor alone. -/
namespace Go.Proofs.YtjfmmingkciapaaDoor
open Go.ChangeShapes Go.WideShapes Go.ChangeAt Go.RowKit
set_option linter.unusedVariables false

end Go.Proofs.YtjfmmingkciapaaDoor
/- Plain mathematics of varints: what is encoded, what is decoded. No condition. -/
namespace Go.Proofs.YtjfmmingkciapaaDoor
open Go.RowKit
set_option linter.unusedVariables false

/-- The groups of seven bits, the least first. -/
def uv (n : Nat) : List Int := if n < 128 then [(n : Int)] else ((n % 128 + 128 : Nat) : Int) :: uv (n / 128)
termination_by n
decreasing_by omega
/-- What AppendUvarint appends. -/
def enc (n : Int) : List Int := if 0 ≤ n ∧ n ≤ 1000000000000 then uv n.toNat else []
theorem uv_small {n : Nat} (h : n < 128) : uv n = [(n : Int)] := by rw [uv, if_pos h]
theorem uv_big {n : Nat} (h : ¬ n < 128) : uv n = ((n % 128 + 128 : Nat) : Int) :: uv (n / 128) := by rw [uv, if_neg h]
theorem uv_pos (n : Nat) : 1 ≤ (uv n).length := by
  by_cases h : n < 128
  · rw [uv_small h]; simp
  · rw [uv_big h]; simp
theorem uv_le (k n : Nat) (h : n < 128 ^ (k + 1)) : (uv n).length ≤ k + 1 := by
  induction k generalizing n with
  | zero => rw [uv_small (by simpa using h)]; simp
  | succ k ih =>
    by_cases h1 : n < 128
    · rw [uv_small h1]; simp
    · rw [uv_big h1]
      have := ih (n / 128) (by rw [Nat.pow_succ] at h; omega)
      simp only [List.length_cons]
      omega
theorem uv_wf (n : Nat) : ∀ x ∈ uv n, (Lit.int .u8 x).wf = true := by
  induction n using Nat.strongRecOn with
  | _ n ih =>
    by_cases h : n < 128
    · rw [uv_small h]
      intro x hx
      simp only [List.mem_cons, List.not_mem_nil, or_false] at hx
      subst hx
      exact wf_u8 (by omega) (by omega)
    · rw [uv_big h]
      intro x hx
      rcases List.mem_cons.1 hx with rfl | hx
      · exact wf_u8 (by omega) (by omega)
      · exact ih _ (by omega) x hx
theorem enc_wf (n : Int) : ∀ x ∈ enc n, (Lit.int .u8 x).wf = true := by
  unfold enc
  split
  · exact uv_wf _
  · intro x hx; cases hx
theorem enc_le (n : Int) : (enc n).length ≤ 6 := by
  unfold enc
  split
  · exact uv_le 5 _ (by omega)
  · simp

/-- What is read from a place on: the integer, and how many bytes it took. -/
def rd (fuel k n : Nat) (l : List Int) : Option (Nat × Nat) :=
  match fuel, l with
  | 0, _ => none
  | _, [] => none
  | f + 1, x :: r =>
    if x < 128 then (if (x = 0 ∧ 0 < k) ∨ 1000000000000 < n + x.toNat * 128 ^ k then none else some (n + x.toNat * 128 ^ k, k + 1))
    else rd f (k + 1) (n + (x.toNat % 128) * 128 ^ k) r
/-- What ReadUvarint answers. -/
def readOf (l : List Int) (at' : Int) : Option (Nat × Nat) := if 0 ≤ at' then (rd 6 0 0 (l.drop at'.toNat)).map fun p => (p.1, at'.toNat + p.2) else none

theorem and127 (n : Nat) (h : n < 9223372036854775808) : bits .and .i64 (n : Int) 127 = ((n % 128 : Nat) : Int) := by
  have h1 := bits_mask .i64 63 (by decide) (fun n h0 h1 => by rw [IntKind.wrap_i64]; omega) 7 (by decide) (n : Int) (by omega) (by omega)
  have e : ((2 : Int) ^ 7 - 1) = 127 := by decide
  have e2 : ((2 : Int) ^ 7) = 128 := by decide
  rw [e, e2] at h1
  rw [h1]
  omega
theorem or128 (n : Nat) (h : n < 128) : bits .or .i64 (n : Int) 128 = ((n + 128 : Nat) : Int) := by
  have h1 := (bits_nat .i64 63 (by decide) (fun n h0 h1 => by rw [IntKind.wrap_i64]; omega) n 128 (by omega) (by decide)).2
  have h2 : n ||| 128 = n + 128 := by
    have := Nat.two_pow_add_eq_or_of_lt (i := 7) (b := n) (by simpa using h) 1
    rw [Nat.or_comm]
    simpa [Nat.add_comm] using this.symm
  rw [h2] at h1
  exact h1
theorem or_shift (n m k : Nat) (hn : n < 128 ^ k) (hm : m < 128) (hk : k ≤ 5) : bits .or .i64 (n : Int) ((m * 128 ^ k : Nat) : Int) = ((n + m * 128 ^ k : Nat) : Int) := by
  have hp : 128 ^ k = 2 ^ (7 * k) := by rw [show (128 : Nat) = 2 ^ 7 from rfl, ← Nat.pow_mul]
  have hle : 128 ^ k ≤ 128 ^ 5 := Nat.pow_le_pow_right (by decide) hk
  have h5 : (128 : Nat) ^ 5 = 34359738368 := by decide
  have hmk : m * 128 ^ k ≤ 127 * 34359738368 := Nat.mul_le_mul (by omega) (by omega)
  have h1 := (bits_nat .i64 63 (by decide) (fun n h0 h1 => by rw [IntKind.wrap_i64]; omega) n (m * 128 ^ k) (by omega) (by omega)).2
  have h2 : n ||| m * 128 ^ k = n + m * 128 ^ k := by
    have := Nat.two_pow_add_eq_or_of_lt (i := 7 * k) (b := n) (by rw [← hp]; exact hn) m
    rw [Nat.or_comm, hp, Nat.mul_comm m, ← this, Nat.add_comm]
  rw [h2] at h1
  exact h1
/-- ReadUvarint's three results. -/
def readRes (r : Option (Nat × Nat)) : Value := match r with
  | some (n, nx) => .tuple #[.int .i64 (n : Int), .int .i64 (nx : Int), .bool true]
  | none => .tuple #[.int .i64 0, .int .i64 0, .bool false]
/-- Behind k bytes that go on: what is still to be read. -/
def readOn (l : List Int) (A k n : Nat) : Option (Nat × Nat) := (rd (6 - k) k n (l.drop (A + k))).map fun p => (p.1, A + p.2)
theorem readOf_start (l : List Int) (A : Nat) : readOf l (A : Int) = readOn l A 0 0 := by
  unfold readOf readOn
  rw [if_pos (by omega)]
  simp
theorem readOf_neg (l : List Int) (a : Int) (h : a < 0) : readOf l a = none := by
  unfold readOf
  rw [if_neg (by omega)]
theorem readOn_six (l : List Int) (A n : Nat) : readOn l A 6 n = none := by simp [readOn, rd]
theorem readOn_end (l : List Int) (A k n : Nat) (h : l.length ≤ A + k) : readOn l A k n = none := by
  unfold readOn
  rw [List.drop_eq_nil_of_le h]
  cases h6 : 6 - k <;> simp [rd]
theorem readOn_more (l : List Int) (A k n : Nat) (hk : k < 6) (h : A + k < l.length) (hx : ¬ l[A + k] < 128) : readOn l A k n = readOn l A (k + 1) (n + (l[A + k].toNat % 128) * 128 ^ k) := by
  unfold readOn
  rw [List.drop_eq_getElem_cons h, show 6 - k = (6 - (k + 1)) + 1 by omega]
  rw [rd, if_neg hx]
  rfl
theorem readOn_last (l : List Int) (A k n : Nat) (hk : k < 6) (h : A + k < l.length) (hx : l[A + k] < 128) :
    readOn l A k n = if (l[A + k] = 0 ∧ 0 < k) ∨ 1000000000000 < n + l[A + k].toNat * 128 ^ k then none else some (n + l[A + k].toNat * 128 ^ k, A + k + 1) := by
  unfold readOn
  rw [List.drop_eq_getElem_cons h, show 6 - k = (6 - (k + 1)) + 1 by omega]
  rw [rd, if_pos hx]
  split
  · rfl
  · simp [Nat.add_assoc]
theorem or_step (n y k : Nat) (Q : Int) (hn : n < 128 ^ k) (hk : k ≤ 5) (hQ : ((128 ^ k : Nat) : Int) = Q) : bits .or .i64 (n : Int) ((y : Int) % 128 * Q) = ((n + y % 128 * 128 ^ k : Nat) : Int) ∧ n + y % 128 * 128 ^ k < 128 ^ (k + 1) := by
  subst hQ
  have h1 := or_shift n (y % 128) k hn (by omega) hk
  constructor
  · rw [← h1]
    congr 1
  · have h2 : y % 128 * 128 ^ k ≤ 127 * 128 ^ k := Nat.mul_le_mul_right _ (by omega)
    rw [Nat.pow_succ]
    omega
end Go.Proofs.YtjfmmingkciapaaDoor
/- Contracts of chapter 2's model: what its functions return. -/
namespace Go.Proofs.YtjfmmingkciapaaDoor
open Go.ChangeShapes Go.WideShapes Go.ChangeAt Go.RowKit
set_option linter.unusedVariables false

end Go.Proofs.YtjfmmingkciapaaDoor
/- The draws of chapter 2's inputs: each returns some bytes of its own, and writes into its own cursor alone. -/
namespace Go.Proofs.YtjfmmingkciapaaDoor
open Go.ChangeShapes Go.WideShapes Go.ChangeAt Go.RowKit
set_option linter.unusedVariables false

theorem Own.only {E : TypeId} {K : IntKind} {w w' : World} {lo hi B : Nat} {v : Value} {xs : List Int} (h : Own E K w lo hi v xs) (ho : Only B w w') (hd : B < lo ∨ hi ≤ B) : Own E K w' lo hi v xs :=
  h.keep fun k h1 h2 h3 => ho.block k h3 (by omega)
theorem Only.andBelow {B : Nat} {a b c : World} (h : Only B a b) (k : Below a.heap.size b c) : Only B a c :=
  ⟨k.os.trans h.os, k.tape.trans h.tape, k.output.trans h.output, Nat.le_trans h.size k.size, fun i hi hn => (k.block i hi).trans (h.block i hi hn)⟩
theorem Cur.kept {w w' : World} {B C : Nat} {a : Option Addr} {len cap : Nat} {z : List Int} (h : Cur w B a len cap z) (hb : Below C w w') (hC : B < C) : Cur w' B a len cap z := by
  have hc : ∀ o, w'.cell? ⟨B, o, none⟩ = w.cell? ⟨B, o, none⟩ := fun o => hb.cell (p := ⟨B, o, none⟩) hC
  obtain ⟨i, hi, hci⟩ := h.ci
  obtain ⟨g, hg⟩ := h.ch
  refine ⟨Nat.lt_of_lt_of_le h.lt hb.size, ?_, h.old, by rw [hc]; exact h.cb, ⟨i, hi, by rw [hc]; exact hci⟩, ⟨g, by rw [hc]; exact hg⟩, fun o => by rw [hb.frozen (p := ⟨B, o, none⟩) hC]; exact h.fr o⟩
  rcases h.row with hr | ⟨x, rfl, h1, h2, h3, h4, h5⟩
  · exact .inl hr
  · refine .inr ⟨x, rfl, h1, h2, h3, fun i hi => ?_, h5⟩
    have hx : (x.add i).block = x.block := by unfold Addr.add; split <;> rfl
    have := h.old x rfl (by omega)
    rw [hb.cell (by rw [hx]; omega)]
    exact h4 i hi
end Go.Proofs.YtjfmmingkciapaaDoor
/- The draws of chapter 3's inputs. -/
namespace Go.Proofs.YtjfmmingkciapaaDoor
open Go.ChangeShapes Go.WideShapes Go.ChangeAt Go.RowKit
set_option linter.unusedVariables false

end Go.Proofs.YtjfmmingkciapaaDoor
/- The draws of chapter 4's inputs. -/
namespace Go.Proofs.YtjfmmingkciapaaDoor
open Go.ChangeShapes Go.WideShapes Go.ChangeAt Go.RowKit
set_option linter.unusedVariables false

end Go.Proofs.YtjfmmingkciapaaDoor
/- Names (chapter 5): mathematics, and contracts of the model. -/
namespace Go.Proofs.YtjfmmingkciapaaDoor
open Go.ChangeShapes Go.WideShapes Go.ChangeAt Go.RowKit
set_option linter.unusedVariables false

def isN (x : Int) : Prop := 10 ≤ x ∧ x ≤ 49
instance (x : Int) : Decidable (isN x) := inferInstanceAs (Decidable (10 ≤ x ∧ x ≤ 49))
def makeOf (k n : Int) : Int := if (1 ≤ k ∧ k ≤ 4) ∧ 0 ≤ n ∧ n ≤ 9 then k * 10 + n else -1
def kindOf (x : Int) : Int := if isN x then x / 10 else 0
def hasOf (x k : Int) : Bool := decide (isN x ∧ x / 10 = k)
def letter (k : Int) : UInt8 := if k = 1 then 112 else if k = 2 then 100 else if k = 3 then 103 else 111
/-- A name's text. -/
def nameS (x : Int) : ByteArray := if isN x then ⟨#[letter (x / 10), UInt8.ofNat (48 + (x % 10).toNat)]⟩ else ⟨#[]⟩
theorem spec_isName (x : Int) (w : World) :
    Calls Tryd.prog 64 #[.int .i64 x] w fun e w' => e = .returned (.bool (decide (isN x))) ∧ w = w' := by
  go_enter Tryd.func64, Tryd.ntmps64
  go_wp2_with fail
  refine (spec_l1In x 10 49 w).mono ?_
  rintro e w' ⟨rfl, rfl⟩
  go_wp2
  go_ret
  exact ⟨ret_b (by show _ = decide (10 ≤ x ∧ x ≤ 49); simp), rfl⟩
theorem spec_isName_yes (x : Int) (w : World) (h : 10 ≤ x ∧ x ≤ 49) : Calls Tryd.prog 64 #[.int .i64 x] w fun e w' => e = .returned (.bool true) ∧ w = w' :=
  (spec_isName x w).mono fun e w' he => ⟨by rw [he.1, decide_eq_true (p := isN x) h], he.2⟩
theorem spec_isName_no (x : Int) (w : World) (h : ¬ (10 ≤ x ∧ x ≤ 49)) : Calls Tryd.prog 64 #[.int .i64 x] w fun e w' => e = .returned (.bool false) ∧ w = w' :=
  (spec_isName x w).mono fun e w' he => ⟨by rw [he.1, decide_eq_false (p := isN x) h], he.2⟩
/-- What a literal's block holds behind a draw and a call. -/
theorem lit_after {w w1 : World} {cs : Array Value} {T : TypeId} {v : Value} (hb : Below ((w.alloc (.cells cs T)).drew).heap.size ((w.alloc (.cells cs T)).drew) w1) (k : Nat) (hk : cs[k]? = some v) : w1.cell? ⟨w.heap.size, k, none⟩ = some v := by
  refine (hb.cell (p := ⟨w.heap.size, k, none⟩) (by show w.heap.size < (w.heap.push _).size; simp)).trans ?_
  show (w.alloc (.cells cs T)).cell? ⟨w.heap.size, k, none⟩ = some v
  rw [World.cell?_alloc_new]
  exact hk
end Go.Proofs.YtjfmmingkciapaaDoor
/- Names (chapter 5): more contracts of the model. -/
namespace Go.Proofs.YtjfmmingkciapaaDoor
open Go.ChangeShapes Go.WideShapes Go.ChangeAt Go.RowKit
set_option linter.unusedVariables false

theorem spec_hasKind (x k : Int) (w : World) :
    Calls Tryd.prog 49 #[.int .i64 x, .int .i64 k] w fun e w' => e = .returned (.bool (hasOf x k)) ∧ w = w' := by
  by_cases h : 10 ≤ x ∧ x ≤ 49
  · have H := Lib.hid h
    obtain ⟨h0, h1⟩ := h
    obtain ⟨q, hq⟩ : ∃ q, x / 10 = q := ⟨_, rfl⟩
    have HQ := Lib.hid hq
    by_cases hk : q = k
    · have e1 : (q == k) = true := by rw [beq_iff_eq]; exact hk
      have HK := Lib.hid hk
      clear hk
      go_enter Tryd.func49, Tryd.ntmps49
      go_wp2_with (go_at_call 64; refine (spec_isName_yes _ _ H.out).mono ?_; rintro e w' ⟨rfl, rfl⟩)
      go_ret
      exact ⟨ret_b (by unfold hasOf; rw [decide_eq_true (p := isN x ∧ x / 10 = k) ⟨H.out, HQ.out.trans HK.out⟩]), rfl⟩
    · have e1 : (q == k) = false := by rw [beq_eq_false_iff_ne]; exact hk
      have HK := Lib.hid hk
      clear hk
      go_enter Tryd.func49, Tryd.ntmps49
      go_wp2_with (go_at_call 64; refine (spec_isName_yes _ _ H.out).mono ?_; rintro e w' ⟨rfl, rfl⟩)
      go_ret
      exact ⟨ret_b (by unfold hasOf; rw [decide_eq_false (p := isN x ∧ x / 10 = k) (fun e => HK.out (HQ.out.symm.trans e.2))]), rfl⟩
  · have H := Lib.hid h
    clear h
    go_enter Tryd.func49, Tryd.ntmps49
    go_wp2_with (go_at_call 64; refine (spec_isName_no _ _ H.out).mono ?_; rintro e w' ⟨rfl, rfl⟩)
    go_ret
    exact ⟨ret_b (by unfold hasOf; rw [decide_eq_false (p := isN x ∧ x / 10 = k) (fun e => H.out e.1)]), rfl⟩
theorem isN_yes {x : Int} (h : 10 ≤ x ∧ x ≤ 49) : decide (isN x) = true := decide_eq_true h
theorem isN_no {x : Int} (h : ¬ (10 ≤ x ∧ x ≤ 49)) : decide (isN x) = false := decide_eq_false h
/-- What ParseName finds. -/
def IsParse (s : ByteArray) (r : Option Int) : Prop := match r with
  | some x => isN x ∧ nameS x = s
  | none => ∀ y, isN y → nameS y ≠ s
def parseRes (r : Option Int) : Value := match r with
  | some x => .tuple #[.int .i64 x, .bool true]
  | none => .tuple #[.int .i64 (-1), .bool false]
theorem parse_ex (s : ByteArray) : ∃ r, IsParse s r := by
  by_cases h : ∃ x, isN x ∧ nameS x = s
  · obtain ⟨x, hx⟩ := h
    exact ⟨some x, hx⟩
  · exact ⟨none, fun y hy he => h ⟨y, hy, he⟩⟩
theorem letter_inj {a b : Int} (ha : 1 ≤ a ∧ a ≤ 4) (hb : 1 ≤ b ∧ b ≤ 4) (h : letter a = letter b) : a = b := by
  have ca : a = 1 ∨ a = 2 ∨ a = 3 ∨ a = 4 := by omega
  have cb : b = 1 ∨ b = 2 ∨ b = 3 ∨ b = 4 := by omega
  rcases ca with rfl | rfl | rfl | rfl <;> rcases cb with rfl | rfl | rfl | rfl <;> first | rfl | (exfalso; revert h; decide)
theorem nameS_inj {x y : Int} (hx : isN x) (hy : isN y) (h : nameS x = nameS y) : x = y := by
  obtain ⟨x0, x1⟩ := hx
  obtain ⟨y0, y1⟩ := hy
  unfold nameS at h
  rw [if_pos ⟨x0, x1⟩, if_pos ⟨y0, y1⟩] at h
  have h1 := congrArg (fun s : ByteArray => s.data.toList) h
  simp only [List.cons.injEq, and_true] at h1
  have e1 := letter_inj (by omega) (by omega) h1.1
  have e2 := congrArg UInt8.toNat h1.2
  rw [UInt8.toNat_ofNat', UInt8.toNat_ofNat'] at e2
  omega
theorem parse_one {s : ByteArray} {x : Int} {r : Option Int} (h : IsParse s r) (hx : isN x) (he : nameS x = s) : r = some x := by
  cases r with
  | none => exact absurd he (h x hx)
  | some y => rw [nameS_inj h.1 hx (h.2.trans he.symm)]
theorem parse_none {s : ByteArray} {r : Option Int} (h : IsParse s r) (hn : ∀ y, 10 ≤ y → y < 50 → nameS y ≠ s) : r = none := by
  cases r with
  | none => rfl
  | some y => exact absurd h.2 (hn y h.1.1 (by have := h.1.2; omega))
end Go.Proofs.YtjfmmingkciapaaDoor
/- The draws of chapter 5's inputs. -/
namespace Go.Proofs.YtjfmmingkciapaaDoor
open Go.ChangeShapes Go.WideShapes Go.ChangeAt Go.RowKit
set_option linter.unusedVariables false

theorem name_any (w : World) (B : Nat) (a : Option Addr) (len cap : Nat) (z : List Int) (k : Int) (hk0 : 0 ≤ k) (hk1 : k ≤ 4) (hc : Cur w B a len cap z) :
    Calls Tryd.prog 36 #[.pointer (some ⟨B, 0, none⟩), .int .i64 k] w fun e w' => ∃ v : Int, -1 ≤ v ∧ v ≤ 50 ∧ e = .returned (.int .i64 v) ∧ Only B w w' ∧ Cur w' B a len cap z := by
  go_enter Tryd.func36, Tryd.ntmps36
  go_wp2_with fail
  refine (below_any w B a len cap z 3 (by decide) (by decide) hc).mono ?_
  rintro e w1 ⟨p, hp, rfl, ho1, hc1⟩
  go_wp2
  go_ret
  exact ⟨k * 10 + (p : Int), by omega, by omega, rfl, ho1, hc1⟩
end Go.Proofs.YtjfmmingkciapaaDoor
/- The draws of chapter 12's inputs: logs, quotes. -/
namespace Go.Proofs.YtjfmmingkciapaaDoor
open Go.ChangeShapes Go.WideShapes Go.ChangeAt Go.RowKit
set_option linter.unusedVariables false

set_option maxHeartbeats 1000000 in
theorem log_any (w : World) (B : Nat) (a : Option Addr) (len cap : Nat) (z : List Int) (hc : Cur w B a len cap z) :
    Calls Tryd.prog 18 #[.pointer (some ⟨B, 0, none⟩)] w fun e w' => ∃ u xs, e = .returned u ∧ Own 3 .i64 w' w.heap.size w'.heap.size u xs ∧ xs.length ≤ 4 ∧ (∀ x ∈ xs, 0 ≤ x ∧ x ≤ 5) ∧ Only B w w' ∧ Cur w' B a len cap z := by
  obtain ⟨i0, hi0, hz0, hz1, hz2⟩ := info_parts infoIntS
  have hlt := hc.lt
  have HC := Lib.hid hc
  clear hc
  go_enter Tryd.func18, Tryd.ntmps18
  go_wp2_with fail
  refine (below_any _ B a len cap z 5 (by decide) (by decide) (HC.out.alloc _)).mono ?_
  rintro e w1 ⟨n, hn, rfl, ho1, hc1⟩
  have hO := ((Own.empty 3 .i64 w).only ho1 (.inl hlt)).wide (lo' := w.heap.size) (hi' := w1.heap.size) (Nat.le_refl _) (by have := ho1.size; simp at this; omega)
  have ho01 := ((Only.refl B w).alloc (.cells #[] 3)).trans ho1
  go_wp2
  go_loopw [3, 4] (fun o i wr => ∃ (k : Nat) (xs : List Int), k ≤ n ∧ i = .int .i64 ((n - k : Nat) : Int) ∧ Hid (xs.length = k ∧ ∀ x ∈ xs, 0 ≤ x ∧ x ≤ 5) ∧ Own 3 .i64 wr w.heap.size wr.heap.size o xs ∧ Only B w wr ∧ Hid (Cur wr B a len cap z)) (fun _ i _ => (intOf i).toNat)
  case atStart => exact ⟨0, [], Nat.zero_le _, rfl, ⟨rfl, fun x hx => by cases hx⟩, hO, ho01, Lib.hid hc1⟩
  case round =>
    obtain ⟨k, xs, hk, rfl, HX, hown, ho, HCr⟩ := hrel
    obtain ⟨q, hq⟩ : ∃ q : Nat, n - k = q := ⟨_, rfl⟩
    rw [hq]
    by_cases hkn : 0 < q
    · go_wp2_with fail
      refine (below_any wr B a len cap z 6 (by decide) (by decide) HCr.out).mono ?_
      rintro e w4 ⟨v, hv1, rfl, ho4, hc4⟩
      have hown1 := (hown.only ho4 (.inl hlt)).wide (Nat.le_refl _) ho4.size
      have hO3 := hown1.below (B := w4.heap.size) ((Below.refl _ w4).alloc (Nat.le_refl _) (.cells #[.int .i64 (v : Int)] 3)) (Nat.le_refl _)
      have hR3 := row_one .i64 3 w4 (v : Int) (wf_i64 (by omega) (by omega))
      have hsz : w.heap.size ≤ (w4.alloc (.cells #[.int .i64 (v : Int)] 3)).heap.size := by have := ho.size; have := ho4.size; simp; omega
      have hle : xs.length + [(v : Int)].length ≤ 2199023255552 := by have := HX.out.1; simp only [List.length_cons, List.length_nil]; omega
      have hc5 := hc4.alloc (.cells #[.int .i64 (v : Int)] 3)
      have ho5 := (ho.trans ho4).alloc (.cells #[.int .i64 (v : Int)] 3)
      clear hown hown1 hO
      go_wp2_with (at_builtin; refine wpList_append_Own rfl _ _ 24 rfl 3 i0 (.int .i64 0) 8 Tryd.underlying24 hi0 hz0 hz1 hz2 rfl .i64 w.heap.size _ _ xs rfl hO3 _ _ [(v : Int)] rfl hR3 hle (by decide) hsz ?_; intro v6 w6 hown6 hb6)
      go_roundw
      case rel => exact ⟨k + 1, xs ++ [(v : Int)], by omega, by rw [show n - (k + 1) = q - 1 by omega]; go_num, ⟨by rw [List.length_append, HX.out.1]; rfl, fun x hx => by
        rcases List.mem_append.1 hx with hx | hx
        · exact HX.out.2 x hx
        · obtain rfl : x = (v : Int) := by simpa using hx
          exact ⟨by omega, by omega⟩⟩, hown6, ho5.andBelow hb6, Lib.hid (hc5.kept hb6 hlt)⟩
      case measure => simp only [intOf]; omega
    · have hq0 : q = 0 := by omega
      subst hq0
      go_wp2
      go_ret
      exact ⟨_, xs, rfl, hown, by have := HX.out.1; omega, HX.out.2, ho, HCr.out⟩
/-- A log that a law has drawn, as it may be read. -/
def LogR (w : World) (u : Value) (xs : List Int) (n : Nat) : Prop := xs.length ≤ n ∧ (∀ x ∈ xs, 0 ≤ x ∧ x ≤ 5) ∧ Row .i64 w w.heap.size u xs
theorem LogR.below {w w' : World} {u : Value} {xs : List Int} {n : Nat} (h : LogR w u xs n) (hb : Below w.heap.size w w') : LogR w' u xs n :=
  ⟨h.1, h.2.1, (h.2.2.below hb (Nat.le_refl _)).more hb.size⟩
end Go.Proofs.YtjfmmingkciapaaDoor
