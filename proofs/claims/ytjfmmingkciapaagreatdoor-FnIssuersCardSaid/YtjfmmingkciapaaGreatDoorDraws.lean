/- Some texts in one: Draw, Draw4, Draw5, Loc, Draw6, Draw6b. -/
import Derived.Test.YtjfmmingkciapaaGreatDoorGround
import Derived.WalkKit
import Derived.ProofKit
import Derived.OpenShut
import Derived.WalkLawsBesides
import Derived.WalkSpells
import Derived.LoopTactic
import Derived.Lib.Hide
import Derived.Below
import Derived.Deep.QuietTactic
import Derived.BigQuiet
import Derived.Outline
import Derived.Test.YtjfmmingkciapaaGreatDoorNamesZ
import Derived.Handy
import Derived.Test.YtjfmmingkciapaaGreatDoorFactT
import Derived.Deep.RegionHeld3
import Derived.Deep.DeepCutAuto
/- The draws: what the functions that draw an input from bytes return, and what they leave: they write into their own cursor alone. -/
namespace Go.Proofs.YtjfmmingkciapaaGreatDoor
open Go.ChangeShapes Go.WideShapes Go.ChangeAt Go.RowKit
set_option linter.unusedVariables false

/-- w' is w but for block B and new blocks. -/
structure Only (B : Nat) (w w' : World) : Prop where
  os : w'.os = w.os
  tape : w'.tape = w.tape
  output : w'.output = w.output
  size : w.heap.size ≤ w'.heap.size
  block : ∀ k, k < w.heap.size → k ≠ B → w'.heap[k]? = w.heap[k]?
theorem Only.refl (B : Nat) (w : World) : Only B w w := ⟨rfl, rfl, rfl, Nat.le_refl _, fun _ _ _ => rfl⟩
theorem Only.trans {B : Nat} {a b c : World} (h : Only B a b) (k : Only B b c) : Only B a c :=
  ⟨k.os.trans h.os, k.tape.trans h.tape, k.output.trans h.output, Nat.le_trans h.size k.size, fun i hi hn => (k.block i (Nat.lt_of_lt_of_le hi h.size) hn).trans (h.block i hi hn)⟩
theorem Only.drew {B : Nat} {a w : World} (h : Only B a w) : Only B a w.drew := ⟨h.os, h.tape, h.output, h.size, h.block⟩
theorem Only.drewN {B : Nat} {a w : World} (h : Only B a w) (n : Nat) : Only B a (w.drewN n) := ⟨h.os, h.tape, h.output, h.size, h.block⟩
theorem Only.setCell {B : Nat} {a w : World} (h : Only B a w) (o : Nat) (u : Value) : Only B a (w.setCell ⟨B, o, none⟩ u) :=
  h.trans ⟨rfl, rfl, rfl, by simp [World.setCell], fun k _ hn => Below.heap_setCell _ _ _ _ hn⟩
theorem Only.alloc {B : Nat} {a w : World} (h : Only B a w) (o : Obj) : Only B a (w.alloc o) :=
  h.trans ⟨rfl, rfl, rfl, by simp, fun k hk _ => Below.heap_alloc _ _ _ hk⟩
theorem Only.cell {B : Nat} {w w' : World} (h : Only B w w') {p : Addr} (hp : p.block < w.heap.size) (hn : p.block ≠ B) : w'.cell? p = w.cell? p := World.cell?_of_block (w := w) (h.block p.block hp hn)
theorem Only.below {B C : Nat} {w w' : World} (h : Only B w w') (hC : C ≤ w.heap.size) (hB : C ≤ B) : Below C w w' :=
  ⟨h.os, h.tape, h.output, h.size, fun k hk => h.block k (by omega) (by omega)⟩
theorem Below.only {B : Nat} {w w' : World} (h : Below w.heap.size w w') : Only B w w' :=
  ⟨h.os, h.tape, h.output, h.size, fun k hk _ => h.block k hk⟩

/-- A cursor of the draws in block B, over the bytes z. -/
structure Cur (w : World) (B : Nat) (a : Option Addr) (len cap : Nat) (z : List Int) : Prop where
  lt : B < w.heap.size
  row : IsRow .u8 w a len cap z
  old : ∀ x, a = some x → 0 < cap → x.block < B
  cb : w.cell? ⟨B, 0, none⟩ = some (.slice a len cap)
  ci : ∃ i : Nat, i ≤ len ∧ w.cell? ⟨B, 1, none⟩ = some (.int .i64 (i : Int))
  ch : ∃ h : Int, w.cell? ⟨B, 2, none⟩ = some (.int .i64 h)
  fr : ∀ o, w.frozen? ⟨B, o, none⟩ = false

/-- What is masked is no greater than the mask. -/
theorem and_mask (x : Int) (m : Nat) (hm : m < 4611686018427387904) : ∃ r : Nat, r ≤ m ∧ bits .and .i64 x (m : Int) = (r : Int) := by
  refine ⟨(BitVec.ofInt 64 x).toNat &&& m, Nat.and_le_right, ?_⟩
  have h : ((BitVec.ofInt 64 x).toNat &&& m) ≤ m := Nat.and_le_right
  have e : (BitVec.ofInt 64 (m : Int)).toNat = m := by
    rw [BitVec.ofInt_natCast, BitVec.toNat_ofNat]
    omega
  unfold bits
  show IntKind.i64.wrap (((BitVec.ofInt 64 x &&& BitVec.ofInt 64 (m : Int)).toNat : Nat) : Int) = _
  rw [BitVec.toNat_and, e, IntKind.wrap_i64]
  omega

theorem and255 (x : Int) : ∃ r : Nat, r ≤ 255 ∧ bits .and .i64 x 255 = (r : Int) := and_mask x 255 (by decide)

theorem IsRow.only {B : Nat} {w w' : World} {k : IntKind} {a : Option Addr} {len cap : Nat} {z : List Int} (h : IsRow k w a len cap z) (hB : ∀ x, a = some x → 0 < cap → x.block ≠ B) (hl : ∀ x, a = some x → 0 < cap → x.block < w.heap.size) (ho : Only B w w') : IsRow k w' a len cap z := by
  rcases h with h | ⟨x, rfl, h1, h2, h3, h4, h5⟩
  · exact .inl h
  · refine .inr ⟨x, rfl, h1, h2, h3, fun i hi => ?_, h5⟩
    have hx : ∀ j, (x.add j).block = x.block := fun j => by unfold Addr.add; split <;> rfl
    rw [ho.cell (by rw [hx]; exact hl x rfl (by omega)) (by rw [hx]; exact hB x rfl (by omega))]
    exact h4 i hi
theorem cell_same {w : World} {a : Addr} {u : Value} (h : w.cell? a = some u) (v : Value) : (w.setCell a v).cell? a = some v := World.cell?_setCell_same' w a v (by rw [h]; rfl)
theorem cell_other {w : World} {B i j : Nat} {v : Value} (h : i ≠ j) : (w.setCell ⟨B, i, none⟩ v).cell? ⟨B, j, none⟩ = w.cell? ⟨B, j, none⟩ := by
  have hn : (⟨B, i, none⟩ : Addr) ≠ ⟨B, j, none⟩ := fun e => h (congrArg Addr.off e)
  exact World.cell?_setCell_other _ _ _ _ hn
theorem Cur.step {w w' : World} {B : Nat} {a : Option Addr} {len cap : Nat} {z : List Int} (h : Cur w B a len cap z) (ho : Only B w w')
    (cb : w'.cell? ⟨B, 0, none⟩ = some (.slice a len cap)) (ci : ∃ i : Nat, i ≤ len ∧ w'.cell? ⟨B, 1, none⟩ = some (.int .i64 (i : Int)))
    (ch : ∃ h : Int, w'.cell? ⟨B, 2, none⟩ = some (.int .i64 h)) (fr : ∀ o, w'.frozen? ⟨B, o, none⟩ = false) : Cur w' B a len cap z :=
  ⟨Nat.lt_of_lt_of_le h.lt ho.size, h.row.only (fun x hx hp => by have := h.old x hx hp; omega) (fun x hx hp => Nat.lt_trans (h.old x hx hp) h.lt) ho, h.old, cb, ci, ch, fr⟩
theorem Cur.set2 {w : World} {B : Nat} {a : Option Addr} {len cap : Nat} {z : List Int} (h : Cur w B a len cap z) (n : Int) : Cur (w.setCell ⟨B, 2, none⟩ (.int .i64 n)) B a len cap z := by
  obtain ⟨i, hi, hci⟩ := h.ci
  obtain ⟨g, hg⟩ := h.ch
  refine h.step ((Only.refl _ _).setCell _ _) ?_ ⟨i, hi, ?_⟩ ⟨n, cell_same hg _⟩ (fun o => by rw [World.frozen?_setCell]; exact h.fr o)
  · rw [cell_other (by decide)]; exact h.cb
  · rw [cell_other (by decide)]; exact hci
theorem Cur.set1 {w : World} {B : Nat} {a : Option Addr} {len cap : Nat} {z : List Int} (h : Cur w B a len cap z) (n : Int) (i : Nat) (hn : n = (i : Int)) (hi : i ≤ len) : Cur (w.setCell ⟨B, 1, none⟩ (.int .i64 n)) B a len cap z := by
  subst hn
  obtain ⟨j, hj, hcj⟩ := h.ci
  obtain ⟨g, hg⟩ := h.ch
  refine h.step ((Only.refl _ _).setCell _ _) ?_ ⟨i, hi, cell_same hcj _⟩ ⟨g, ?_⟩ (fun o => by rw [World.frozen?_setCell]; exact h.fr o)
  · rw [cell_other (by decide)]; exact h.cb
  · rw [cell_other (by decide)]; exact hg
theorem Cur.drewN {w : World} {B : Nat} {a : Option Addr} {len cap : Nat} {z : List Int} (h : Cur w B a len cap z) (n : Nat) : Cur (w.drewN n) B a len cap z :=
  h.step ((Only.refl _ _).drewN n) h.cb h.ci h.ch h.fr
theorem Cur.only {w w' : World} {B : Nat} {a : Option Addr} {len cap : Nat} {z : List Int} (h : Cur w B a len cap z) (ho : Below w.heap.size w w') : Cur w' B a len cap z := by
  have hc : ∀ o, w'.cell? ⟨B, o, none⟩ = w.cell? ⟨B, o, none⟩ := fun o => ho.cell (p := ⟨B, o, none⟩) h.lt
  obtain ⟨i, hi, hci⟩ := h.ci
  obtain ⟨g, hg⟩ := h.ch
  exact h.step (Below.only ho) (by rw [hc]; exact h.cb) ⟨i, hi, by rw [hc]; exact hci⟩ ⟨g, by rw [hc]; exact hg⟩ (fun o => by rw [ho.frozen (p := ⟨B, o, none⟩) h.lt]; exact h.fr o)

set_option maxHeartbeats 1000000 in
theorem byte_any (w : World) (B : Nat) (a : Option Addr) (len cap : Nat) (z : List Int) (hc : Cur w B a len cap z) :
    Calls Tryz.prog 80 #[.pointer (some ⟨B, 0, none⟩)] w fun e w' => ∃ x : Nat, x ≤ 255 ∧ e = .returned (.int .i64 (x : Int)) ∧ Only B w w' ∧ Cur w' B a len cap z := by
  have HC := Lib.hid hc
  obtain ⟨hlt, hrow, hold, hcb, ⟨i, hi, hci⟩, ⟨h, hch⟩, hfr⟩ := hc
  have f0 := hfr 0
  have f1 := hfr 1
  have f2 := hfr 2
  clear hfr
  obtain ⟨x, hx, ex⟩ := and255 (bits BinOp.xor IntKind.i64 (wrap64 (wrap64 (h * 6364136223846793005) + 1442695040888963407) / 8589934592) (wrap64 (wrap64 (h * 6364136223846793005) + 1442695040888963407) / 140737488355328))
  have HO := Lib.hid hold
  clear hold
  by_cases hil : i < len
  · obtain ⟨b, off, rfl, hl, hm, hz, hcell, hwf⟩ : ∃ b off, a = some ⟨b, off, none⟩ ∧ len ≤ cap ∧ cap ≤ maxLen ∧ z.length = cap ∧ (∀ j, j < z.length → w.cell? ⟨b, off + j, none⟩ = some (.int .u8 (z.getD j 0))) ∧ ∀ n ∈ z, (Lit.int .u8 n).wf = true := by
      rcases hrow with ⟨_, h0, _⟩ | ⟨x, rfl, h1, h2, h3, h4, h5⟩
      · omega
      · obtain ⟨b, off, rfl, h6⟩ := ints_at h4 (by omega)
        exact ⟨b, off, rfl, h1, h2, h3, h6, h5⟩
    have hbB : b < B := HO.out _ rfl (by omega)
    have hzi := hcell i (by omega)
    have hne : b ≠ B := by omega
    obtain ⟨z0, z1⟩ := range_u8 hwf i
    rw [List.getD_eq_getElem?_getD] at hzi
    generalize z[i]?.getD 0 = zi at hzi z0 z1
    obtain ⟨y, hy, ey⟩ := and255 ((x : Int) + zi)
    unfold maxLen at hm
    clear hcell hwf hrow
    go_enter Tryz.func80, Tryz.ntmps80
    go_wp2
    go_quiet (fail)
    go_wp2
    go_quiet (fail)
    go_wp2
    go_quiet (fail)
    go_wp2
    go_ret
    exact ⟨y, hy, rfl, (((Only.refl _ _).setCell _ _).drewN _).setCell _ _, ((HC.out.set2 _).drewN _).set1 _ (i + 1) (by omega) (by omega)⟩
  · clear hrow
    go_enter Tryz.func80, Tryz.ntmps80
    go_wp2
    go_quiet (fail)
    go_wp2
    go_quiet (fail)
    go_wp2
    go_ret
    exact ⟨x, hx, rfl, (((Only.refl _ _).setCell _ _).drewN _).drewN _, ((HC.out.set2 _).drewN _).drewN _⟩

theorem rem_lt (x : Nat) (n : Int) (h : 1 ≤ n) : ∃ y : Nat, (y : Int) < n ∧ (x : Int) % n = (y : Int) :=
  ⟨((x : Int) % n).toNat, by have := Int.emod_lt_of_pos (x : Int) (show 0 < n by omega); have := Int.emod_nonneg (x : Int) (show n ≠ 0 by omega); omega, by have := Int.emod_nonneg (x : Int) (show n ≠ 0 by omega); omega⟩
theorem below_any (w : World) (B : Nat) (a : Option Addr) (len cap : Nat) (z : List Int) (n : Int) (h0 : 1 ≤ n) (h1 : n ≤ 9223372036854775807) (hc : Cur w B a len cap z) :
    Calls Tryz.prog 49 #[.pointer (some ⟨B, 0, none⟩), .int .i64 n] w fun e w' => ∃ x : Nat, (x : Int) < n ∧ e = .returned (.int .i64 (x : Int)) ∧ Only B w w' ∧ Cur w' B a len cap z := by
  by_cases hs : n ≤ 256
  · go_enter Tryz.func49, Tryz.ntmps49
    go_wp2_with (go_at_call 80; refine (byte_any w B a len cap z hc).mono ?_; rintro e w1 ⟨x, hx, rfl, ho, hc1⟩)
    go_ret
    obtain ⟨y, hy, ey⟩ := rem_lt x n h0
    exact ⟨y, hy, ret_i ey, ho, hc1⟩
  · go_enter Tryz.func49, Tryz.ntmps49
    go_wp2_with fail
    go_at_call 80
    refine (byte_any w B a len cap z hc).mono ?_
    rintro e w1 ⟨x, hx, rfl, ho1, hc1⟩
    go_wp2_with fail
    refine (byte_any w1 B a len cap z hc1).mono ?_
    rintro e w2 ⟨y, hy, rfl, ho2, hc2⟩
    go_wp2_with fail
    refine (byte_any w2 B a len cap z hc2).mono ?_
    rintro e w3 ⟨t, ht, rfl, ho3, hc3⟩
    go_wp2
    go_ret
    obtain ⟨u, hu, eu⟩ := rem_lt (x * 65536 + y * 256 + t) n h0
    exact ⟨u, hu, ret_i (by rw [← eu]; congr 1), (ho1.trans ho2).trans ho3, hc3⟩

theorem once_any (w : World) (B : Nat) (a : Option Addr) (len cap : Nat) (z : List Int) (n : Int) (h0 : 1 ≤ n) (h1 : n ≤ 9223372036854775807) (hc : Cur w B a len cap z) :
    Calls Tryz.prog 94 #[.pointer (some ⟨B, 0, none⟩), .int .i64 n] w fun e w' => ∃ x : Bool, e = .returned (.bool x) ∧ Only B w w' ∧ Cur w' B a len cap z := by
  go_enter Tryz.func94, Tryz.ntmps94
  go_wp2_with (go_at_call 49; refine (below_any w B a len cap z n h0 h1 hc).mono ?_; rintro e w1 ⟨x, hx, rfl, ho, hc1⟩)
  go_ret
  exact ⟨_, rfl, ho, hc1⟩

/-- What a slice of integers in memory holds, elsewhere than in block B. -/
def IntsB (l u : Int) (w : World) (B : Nat) (p : Addr) (n : Nat) : Prop := p.spot = none ∧ p.block < w.heap.size ∧ p.block ≠ B ∧ ∀ i, i < n → ∃ v : Int, l ≤ v ∧ v ≤ u ∧ w.cell? ⟨p.block, p.off + i, none⟩ = some (.int .i64 v)
theorem int_in (l u : Int) (hl : -9223372036854775808 ≤ l) (hu : u ≤ 9223372036854775807) (w : World) (B : Nat) (a : Option Addr) (len cap : Nat) (z : List Int) (p : Addr) (n c : Nat) (h0 : 1 ≤ n) (h1 : n ≤ 1000) (hp : IntsB l u w B p n) (hc : Cur w B a len cap z) :
    Calls Tryz.prog 65 #[.pointer (some ⟨B, 0, none⟩), .slice (some p) n c] w fun e w' => ∃ v : Int, l ≤ v ∧ v ≤ u ∧ e = .returned (.int .i64 v) ∧ Only B w w' ∧ Cur w' B a len cap z := by
  obtain ⟨b, off, spot⟩ := p
  obtain ⟨rfl, hlt, hne, hv⟩ := hp
  have HV := Lib.hid hv
  clear hv
  go_enter Tryz.func65, Tryz.ntmps65
  go_wp2_with (go_at_call 49; refine (below_any w B a len cap z (n : Int) (by omega) (by omega) hc).mono ?_; rintro e w1 ⟨x, hx, rfl, ho, hc1⟩; obtain ⟨v, hv0, hv1, hv⟩ := HV.out x (by omega); have hv2 := (ho.cell (p := ⟨b, off + x, none⟩) hlt hne).trans hv; clear hv; have hx' : x < n := by omega)
  go_ret
  exact ⟨v, hv0, hv1, rfl, ho, hc1⟩
def okIntsB (l u : Int) (vs : List Value) (n : Nat) : Bool := n == vs.length && vs.all fun v => match v with | .int .i64 x => decide (l ≤ x ∧ x ≤ u) | _ => false
theorem ints_litB (l u : Int) (w : World) (B : Nat) (hB : B < w.heap.size) (T : TypeId) (vs : List Value) (n : Nat) (h : okIntsB l u vs n = true) : IntsB l u (w.alloc (.cells vs.toArray T)) B ⟨w.heap.size, 0, none⟩ n := by
  unfold okIntsB at h
  simp only [Bool.and_eq_true, beq_iff_eq, List.all_eq_true] at h
  obtain ⟨rfl, h⟩ := h
  refine ⟨rfl, by simp, by show w.heap.size ≠ B; omega, fun i hi => ?_⟩
  have hv := h _ (List.getElem_mem hi)
  generalize hx : vs[i] = v at hv
  have hcell : (w.alloc (.cells vs.toArray T)).cell? ⟨w.heap.size, 0 + i, none⟩ = some v := by
    rw [World.cell?_alloc_new]
    simp [hi, hx]
  split at hv
  · rename_i x
    have hb := of_decide_eq_true hv
    exact ⟨x, hb.1, hb.2, hcell⟩
  · cases hv
/-- The same, of integers that are no more than integers. -/
def Ints (w : World) (B : Nat) (p : Addr) (n : Nat) : Prop := IntsB (-9223372036854775808) 9223372036854775807 w B p n
def okInts (vs : List Value) (n : Nat) : Bool := okIntsB (-9223372036854775808) 9223372036854775807 vs n
theorem ints_lit (w : World) (B : Nat) (hB : B < w.heap.size) (T : TypeId) (vs : List Value) (n : Nat) (h : okInts vs n = true) : Ints (w.alloc (.cells vs.toArray T)) B ⟨w.heap.size, 0, none⟩ n := ints_litB _ _ w B hB T vs n h
theorem int_any (w : World) (B : Nat) (a : Option Addr) (len cap : Nat) (z : List Int) (p : Addr) (n c : Nat) (h0 : 1 ≤ n) (h1 : n ≤ 1000) (hp : Ints w B p n) (hc : Cur w B a len cap z) :
    Calls Tryz.prog 65 #[.pointer (some ⟨B, 0, none⟩), .slice (some p) n c] w fun e w' => ∃ v : Int, -9223372036854775808 ≤ v ∧ v ≤ 9223372036854775807 ∧ e = .returned (.int .i64 v) ∧ Only B w w' ∧ Cur w' B a len cap z :=
  int_in _ _ (by decide) (by decide) w B a len cap z p n c h0 h1 hp hc
theorem Cur.alloc {w : World} {B : Nat} {a : Option Addr} {len cap : Nat} {z : List Int} (h : Cur w B a len cap z) (o : Obj) : Cur (w.alloc o) B a len cap z :=
  h.only ((Below.refl _ _).alloc (Nat.le_refl _) o)

theorem cur_new (w : World) (a : Option Addr) (len cap : Nat) (z : List Int) (T : TypeId) (h : Int) (hr : IsRow .u8 w a len cap z) (hold : ∀ x, a = some x → 0 < cap → x.block < w.heap.size) :
    Cur (w.alloc (.cells #[.slice a len cap, .int .i64 0, .int .i64 h] T)) w.heap.size a len cap z := by
  refine ⟨by simp, hr.only (B := w.heap.size) (fun x hx hp => by have := hold x hx hp; omega) hold ((Only.refl _ _).alloc _), hold, ?_, ⟨0, Nat.zero_le _, ?_⟩, ⟨h, ?_⟩, fun o => ?_⟩
  · rw [World.cell?_alloc_new]; rfl
  · rw [World.cell?_alloc_new]; rfl
  · rw [World.cell?_alloc_new]; rfl
  · go_simp
set_option maxRecDepth 10000 in
theorem new_any (w : World) (a : Option Addr) (len cap : Nat) (z : List Int) (hr : IsRow .u8 w a len cap z) :
    Calls Tryz.prog 31 #[.slice a len cap] w fun e w' => ∃ B : Nat, e = .returned (.pointer (some ⟨B, 0, none⟩)) ∧ w.heap.size ≤ B ∧ Below w.heap.size w w' ∧ Cur w' B a len cap z := by
  have HR := Lib.hid hr
  have HO := Lib.hid hr.lt
  rcases hr with ⟨rfl, rfl, rfl, rfl⟩ | ⟨x, rfl, h1, h2, h3, h4, h5⟩
  · go_enter Tryz.func31, Tryz.ntmps31
    go_wp2
    go_loop [3, 4] (fun h i => ∃ n : Int, h = .int .i64 n ∧ i = .int .i64 0) (fun _ _ => 0)
    case atStart => exact ⟨_, rfl, rfl⟩
    case round =>
      obtain ⟨n, rfl, rfl⟩ := hrel
      go_wp2
      go_ret
      exact ⟨w.heap.size, rfl, Nat.le_refl _, (Below.refl _ _).alloc (Nat.le_refl _) _, cur_new _ _ _ _ _ _ _ HR.out HO.out⟩
  · unfold maxLen at h2
    go_enter Tryz.func31, Tryz.ntmps31
    go_wp2
    go_loop [3, 4] (fun h i => ∃ (n : Int) (k : Nat), k ≤ len ∧ h = .int .i64 n ∧ i = .int .i64 (k : Int)) (fun _ i => len - (intOf i).toNat)
    case atStart => exact ⟨_, 0, Nat.zero_le _, rfl, rfl⟩
    case round =>
      obtain ⟨n, k, hk, rfl, rfl⟩ := hrel
      by_cases hlt : k < len
      · obtain ⟨b, off, rfl, h6⟩ := ints_at h4 (by omega)
        have hc := h6 k (by omega)
        obtain ⟨z0, z1⟩ := range_u8 h5 k
        rw [List.getD_eq_getElem?_getD] at hc
        generalize z[k]?.getD 0 = zk at hc z0 z1
        clear h6 h4 h5
        by_cases h4k : (k : Int) < 4000
        · go_wp2
          go_round
          case rel => exact ⟨_, k + 1, by omega, rfl, by go_num⟩
          case measure => simp [intOf]; omega
        · go_wp2
          go_ret
          exact ⟨w.heap.size, rfl, Nat.le_refl _, (Below.refl _ _).alloc (Nat.le_refl _) _, cur_new _ _ _ _ _ _ _ HR.out HO.out⟩
      · go_wp2
        go_ret
        exact ⟨w.heap.size, rfl, Nat.le_refl _, (Below.refl _ _).alloc (Nat.le_refl _) _, cur_new _ _ _ _ _ _ _ HR.out HO.out⟩
/-- What a slice of strings in memory holds, elsewhere than in block B. -/
def Strs (w : World) (B : Nat) (p : Addr) (n : Nat) : Prop := p.spot = none ∧ p.block < w.heap.size ∧ p.block ≠ B ∧ ∀ i, i < n → ∃ v : ByteArray, v.size ≤ 1048576 ∧ w.cell? ⟨p.block, p.off + i, none⟩ = some (.string v)
def okStrs (vs : List Value) (n : Nat) : Bool := n == vs.length && vs.all fun v => match v with | .string x => decide (x.size ≤ 1048576) | _ => false
theorem strs_lit (w : World) (B : Nat) (hB : B < w.heap.size) (T : TypeId) (vs : List Value) (n : Nat) (h : okStrs vs n = true) : Strs (w.alloc (.cells vs.toArray T)) B ⟨w.heap.size, 0, none⟩ n := by
  unfold okStrs at h
  simp only [Bool.and_eq_true, beq_iff_eq, List.all_eq_true] at h
  obtain ⟨rfl, h⟩ := h
  refine ⟨rfl, by simp, by show w.heap.size ≠ B; omega, fun i hi => ?_⟩
  have hv := h _ (List.getElem_mem hi)
  generalize hx : vs[i] = v at hv
  have hcell : (w.alloc (.cells vs.toArray T)).cell? ⟨w.heap.size, 0 + i, none⟩ = some v := by
    rw [World.cell?_alloc_new]
    simp [hi, hx]
  split at hv
  · rename_i x
    exact ⟨x, of_decide_eq_true hv, hcell⟩
  · cases hv
end Go.Proofs.YtjfmmingkciapaaGreatDoor
/- The draws of chapter 4's inputs. -/
namespace Go.Proofs.YtjfmmingkciapaaGreatDoor
open Go.ChangeShapes Go.WideShapes Go.ChangeAt Go.RowKit
set_option linter.unusedVariables false

theorem time_any (w : World) (B : Nat) (a : Option Addr) (len cap : Nat) (z : List Int) (hc : Cur w B a len cap z) :
    Calls Tryz.prog 68 #[.pointer (some ⟨B, 0, none⟩)] w fun e w' => ∃ v : Int, -9223372036854775808 ≤ v ∧ v ≤ 9223372036854775807 ∧ e = .returned (.int .i64 v) ∧ Only B w w' ∧ Cur w' B a len cap z := by
  go_enter Tryz.func68, Tryz.ntmps68
  go_wp2_with fail
  refine (once_any w B a len cap z 8 (by decide) (by decide) hc).mono ?_
  rintro e w1 ⟨x, rfl, ho1, hc1⟩
  cases x
  · go_wp2_with fail
    refine (below_any w1 B a len cap z 40 (by decide) (by decide) hc1).mono ?_
    rintro e w2 ⟨p, hp, rfl, ho2, hc2⟩
    go_wp2
    go_ret
    exact ⟨(p : Int), by omega, by omega, rfl, ho1.trans ho2, hc2⟩
  · go_wp2_with fail
    refine (int_any _ B a len cap z _ _ _ (by decide) (by decide) (ints_lit w1 B hc1.lt _ _ _ (by decide)) (hc1.alloc _)).mono ?_
    rintro e w3 ⟨v, hv0, hv1, rfl, ho3, hc3⟩
    go_wp2
    go_ret
    exact ⟨v, hv0, hv1, rfl, ho1.trans (((Only.refl _ _).alloc _).trans ho3), hc3⟩
end Go.Proofs.YtjfmmingkciapaaGreatDoor
/- The draws of chapter 5's inputs. -/
namespace Go.Proofs.YtjfmmingkciapaaGreatDoor
open Go.ChangeShapes Go.WideShapes Go.ChangeAt Go.RowKit
set_option linter.unusedVariables false

theorem name_any (w : World) (B : Nat) (a : Option Addr) (len cap : Nat) (z : List Int) (k : Int) (hk0 : 0 ≤ k) (hk1 : k ≤ 4) (hc : Cur w B a len cap z) :
    Calls Tryz.prog 93 #[.pointer (some ⟨B, 0, none⟩), .int .i64 k] w fun e w' => ∃ v : Int, -1 ≤ v ∧ v ≤ 50 ∧ e = .returned (.int .i64 v) ∧ Only B w w' ∧ Cur w' B a len cap z := by
  go_enter Tryz.func93, Tryz.ntmps93
  go_wp2_with fail
  refine (below_any w B a len cap z 3 (by decide) (by decide) hc).mono ?_
  rintro e w1 ⟨p, hp, rfl, ho1, hc1⟩
  go_wp2
  go_ret
  exact ⟨k * 10 + (p : Int), by omega, by omega, rfl, ho1, hc1⟩
theorem any_any (w : World) (B : Nat) (a : Option Addr) (len cap : Nat) (z : List Int) (hc : Cur w B a len cap z) :
    Calls Tryz.prog 67 #[.pointer (some ⟨B, 0, none⟩)] w fun e w' => ∃ v : Int, -1 ≤ v ∧ v ≤ 50 ∧ e = .returned (.int .i64 v) ∧ Only B w w' ∧ Cur w' B a len cap z := by
  go_enter Tryz.func67, Tryz.ntmps67
  go_wp2_with fail
  refine (once_any w B a len cap z 6 (by decide) (by decide) hc).mono ?_
  rintro e w1 ⟨x, rfl, ho1, hc1⟩
  cases x
  · go_wp2_with fail
    refine (below_any w1 B a len cap z 4 (by decide) (by decide) hc1).mono ?_
    rintro e w2 ⟨p, hp, rfl, ho2, hc2⟩
    go_wp2_with fail
    refine (name_any w2 B a len cap z _ (by omega) (by omega) hc2).mono ?_
    rintro e w3 ⟨v, hv0, hv1, rfl, ho3, hc3⟩
    go_wp2
    go_ret
    exact ⟨v, hv0, hv1, rfl, (ho1.trans ho2).trans ho3, hc3⟩
  · go_wp2_with fail
    refine (int_in (-1) 50 (by decide) (by decide) _ B a len cap z _ _ _ (by decide) (by decide) (ints_litB (-1) 50 w1 B hc1.lt _ _ _ (by decide)) (hc1.alloc _)).mono ?_
    rintro e w3 ⟨v, hv0, hv1, rfl, ho3, hc3⟩
    go_wp2
    go_ret
    exact ⟨v, hv0, hv1, rfl, ho1.trans (((Only.refl _ _).alloc _).trans ho3), hc3⟩
end Go.Proofs.YtjfmmingkciapaaGreatDoor
/- A struct of the call's own in a block of its own, while draws go on beside it: what it holds, what is kept. No condition; any program. -/
namespace Go.Proofs.YtjfmmingkciapaaGreatDoor
open Go.ChangeShapes Go.WideShapes Go.ChangeAt Go.RowKit
set_option linter.unusedVariables false

/-- Block f, new since w0, holds the cells cs; all else that was there in w0 is as it was, but for block B. -/
structure Loc (w0 : World) (B f : Nat) (T : TypeId) (cs : Array Value) (w : World) : Prop where
  only : Only B w0 w
  new : w0.heap.size ≤ f
  ne : f ≠ B
  blk : w.heap[f]? = some (.cells cs T)
section
variable {w0 w w' : World} {B f : Nat} {T : TypeId} {cs : Array Value}
theorem Loc.lt (h : Loc w0 B f T cs w) : f < w.heap.size := by
  rcases Nat.lt_or_ge f w.heap.size with hl | hg
  · exact hl
  · have hb := h.blk
    rw [Array.getElem?_eq_none hg] at hb
    cases hb
theorem Loc.cell (h : Loc w0 B f T cs w) (i : Nat) {v : Value} (hv : cs[i]? = some v) : w.cell? ⟨f, i, none⟩ = some v := by
  have hb := h.blk
  simp [World.cell?, hb, hv]
theorem Loc.frozen (h : Loc w0 B f T cs w) (i : Nat) : w.frozen? ⟨f, i, none⟩ = false := by
  have hb := h.blk
  simp [World.frozen?, hb]
theorem Loc.call (h : Loc w0 B f T cs w) (ho : Only B w w') : Loc w0 B f T cs w' :=
  ⟨h.only.trans ho, h.new, h.ne, (ho.block f h.lt h.ne).trans h.blk⟩
theorem Loc.drew (h : Loc w0 B f T cs w) : Loc w0 B f T cs w.drew := ⟨h.only.drew, h.new, h.ne, h.blk⟩
theorem Loc.alloc (h : Loc w0 B f T cs w) (o : Obj) : Loc w0 B f T cs (w.alloc o) := h.call ((Only.refl _ _).alloc o)
theorem Only.setNew (h : Only B w0 w) {p : Addr} (hp : w0.heap.size ≤ p.block) (u : Value) : Only B w0 (w.setCell p u) :=
  ⟨h.os, h.tape, h.output, by simpa [World.setCell] using h.size, fun k hk hn => (Below.heap_setCell w p u k (by omega)).trans (h.block k hk hn)⟩
theorem Loc.set (h : Loc w0 B f T cs w) (i : Nat) (u : Value) : Loc w0 B f T (cs.setIfInBounds i u) (w.setCell ⟨f, i, none⟩ u) := by
  refine ⟨h.only.setNew h.new u, h.new, h.ne, ?_⟩
  have hb := h.blk
  simp [World.setCell, Array.getElem?_modify, hb]
/-- A store into another block of the call's own. -/
theorem Loc.setFar (h : Loc w0 B f T cs w) {g : Nat} (hg : w0.heap.size ≤ g) (hne : f ≠ g) (i : Nat) (u : Value) : Loc w0 B f T cs (w.setCell ⟨g, i, none⟩ u) :=
  ⟨h.only.setNew hg u, h.new, h.ne, (Below.heap_setCell w ⟨g, i, none⟩ u f hne).trans h.blk⟩
theorem Loc.mk_new (h : Only B w0 w) (far : B < w.heap.size) : Loc w0 B w.heap.size T cs (w.alloc (.cells cs T)) :=
  ⟨h.alloc _, h.size, Nat.ne_of_gt far, by show (w.heap.push _)[w.heap.size]? = _; simp⟩
/-- What is below a world's size reads behind a call as before: two rules for the walk. -/
theorem bcell {W w : World} (hb : Below W.heap.size W w) : ∀ b o, b < W.heap.size → w.cell? ⟨b, o, none⟩ = W.cell? ⟨b, o, none⟩ := fun b o h => hb.cell (p := ⟨b, o, none⟩) h
/-- A result's block, laid ahead of the cursor. -/
theorem Loc.early {W : World} (hw : Below w0.heap.size w0 W) (hb : Below W.heap.size W w) (hk : W.heap[f]? = some (.cells cs T)) (hf : w0.heap.size ≤ f) (hl : f < W.heap.size) (hB : W.heap.size ≤ B) : Loc w0 B f T cs w :=
  ⟨Below.only (hw.trans (hb.mono hw.size)), hf, by omega, blk_keep hk hb hl⟩
/-- The cursor is kept by all that turns nothing below a number above it. -/
theorem Cur.keep {C : Nat} {a : Option Addr} {len cap : Nat} {z : List Int} (h : Cur w B a len cap z) (hC : B < C) (hb : Below C w w') : Cur w' B a len cap z := by
  have hc : ∀ o, w'.cell? ⟨B, o, none⟩ = w.cell? ⟨B, o, none⟩ := fun o => hb.cell (p := ⟨B, o, none⟩) hC
  obtain ⟨i, hi, hci⟩ := h.ci
  obtain ⟨g, hg⟩ := h.ch
  refine ⟨Nat.lt_of_lt_of_le h.lt hb.size, ?_, h.old, by rw [hc]; exact h.cb, ⟨i, hi, by rw [hc]; exact hci⟩, ⟨g, by rw [hc]; exact hg⟩, fun o => by rw [hb.frozen (p := ⟨B, o, none⟩) hC]; exact h.fr o⟩
  rcases h.row with h0 | ⟨x, rfl, h1, h2, h3, h4, h5⟩
  · exact .inl h0
  · refine .inr ⟨x, rfl, h1, h2, h3, fun i hi => ?_, h5⟩
    have hx : (x.add i).block = x.block := by unfold Addr.add; split <;> rfl
    rw [hb.cell (by rw [hx]; have := h.old x rfl (by omega); omega)]
    exact h4 i hi
theorem Cur.setFar {a : Option Addr} {len cap : Nat} {z : List Int} (h : Cur w B a len cap z) {g : Nat} (hg : B < g) (i : Nat) (u : Value) : Cur (w.setCell ⟨g, i, none⟩ u) B a len cap z :=
  h.keep (C := g) hg ((Below.refl _ _).setCell (p := ⟨g, i, none⟩) (Nat.le_refl _) u)
/-- A store into one of two blocks of the call's own, the world named anew. -/
theorem store_step {T' : TypeId} {cs' : Array Value} {R : Nat} {a : Option Addr} {len cap : Nat} {z : List Int} (lf : Loc w0 B f T cs w) (lr : Loc w0 B R T' cs' w) (hc : Cur w B a len cap z) (hB : B < w0.heap.size) (hne : R ≠ f) (i : Nat) (u : Value) :
    ∃ W, W = w.setCell ⟨f, i, none⟩ u ∧ Loc w0 B f T (cs.setIfInBounds i u) W ∧ Loc w0 B R T' cs' W ∧ Cur W B a len cap z :=
  ⟨_, rfl, lf.set i u, lr.setFar lf.new hne i u, hc.setFar (Nat.lt_of_lt_of_le hB lf.new) i u⟩
theorem call_step {T' : TypeId} {cs' : Array Value} {R : Nat} (lf : Loc w0 B f T cs w) (lr : Loc w0 B R T' cs' w) (ho : Only B w w') : Loc w0 B f T cs w' ∧ Loc w0 B R T' cs' w' := ⟨lf.call ho, lr.call ho⟩
theorem Loc.cells6 {v0 v1 v2 v3 v4 v5 : Value} (h : Loc w0 B f T #[v0, v1, v2, v3, v4, v5] w) : w.cell? ⟨f, 0, none⟩ = some v0 ∧ w.cell? ⟨f, 1, none⟩ = some v1 ∧ w.cell? ⟨f, 2, none⟩ = some v2 ∧ w.cell? ⟨f, 3, none⟩ = some v3 ∧ w.cell? ⟨f, 4, none⟩ = some v4 ∧ w.cell? ⟨f, 5, none⟩ = some v5 :=
  ⟨h.cell 0 rfl, h.cell 1 rfl, h.cell 2 rfl, h.cell 3 rfl, h.cell 4 rfl, h.cell 5 rfl⟩
theorem Loc.twelve {g : Nat} {T' : TypeId} {v0 v1 v2 v3 v4 v5 u0 u1 u2 u3 u4 u5 : Value} (h : Loc w0 B f T #[v0, v1, v2, v3, v4, v5] w) (k : Loc w0 B g T' #[u0, u1, u2, u3, u4, u5] w) :
    w.cell? ⟨f, 0, none⟩ = some v0 ∧ w.cell? ⟨f, 1, none⟩ = some v1 ∧ w.cell? ⟨f, 2, none⟩ = some v2 ∧ w.cell? ⟨f, 3, none⟩ = some v3 ∧ w.cell? ⟨f, 4, none⟩ = some v4 ∧ w.cell? ⟨f, 5, none⟩ = some v5 ∧
    w.cell? ⟨g, 0, none⟩ = some u0 ∧ w.cell? ⟨g, 1, none⟩ = some u1 ∧ w.cell? ⟨g, 2, none⟩ = some u2 ∧ w.cell? ⟨g, 3, none⟩ = some u3 ∧ w.cell? ⟨g, 4, none⟩ = some u4 ∧ w.cell? ⟨g, 5, none⟩ = some u5 :=
  ⟨h.cell 0 rfl, h.cell 1 rfl, h.cell 2 rfl, h.cell 3 rfl, h.cell 4 rfl, h.cell 5 rfl, k.cell 0 rfl, k.cell 1 rfl, k.cell 2 rfl, k.cell 3 rfl, k.cell 4 rfl, k.cell 5 rfl⟩
end
end Go.Proofs.YtjfmmingkciapaaGreatDoor
/- The draws of chapter 6's inputs. -/
namespace Go.Proofs.YtjfmmingkciapaaGreatDoor
open Go.ChangeShapes Go.WideShapes Go.ChangeAt Go.RowKit
set_option linter.unusedVariables false

set_option maxHeartbeats 4000000 in
theorem fact_any (w : World) (B : Nat) (a : Option Addr) (len cap : Nat) (z : List Int) (hc : Cur w B a len cap z) :
    Calls Tryz.prog 66 #[.pointer (some ⟨B, 0, none⟩)] w fun e w' => ∃ x : FactD, x.wf ∧ e = .returned x.val ∧ Only B w w' ∧ Cur w' B a len cap z := by
  have hr : Loc w B w.heap.size 28 #[.int .i64 0, .int .i64 0, .int .i64 0, .int .i64 0, .int .i64 0, .int .i64 0] (w.alloc (.cells #[.int .i64 0, .int .i64 0, .int .i64 0, .int .i64 0, .int .i64 0, .int .i64 0] 28)) := Loc.mk_new (Only.refl _ _) hc.lt
  go_enter Tryz.func66, Tryz.ntmps66
  go_wp2_with fail
  refine (below_any _ B a len cap z 4 (by decide) (by decide) (hc.alloc _)).mono ?_
  rintro e w1 ⟨k, hk, rfl, ho1, hc1⟩
  have hr1 := hr.call ho1
  clear hr ho1
  go_wp2_with fail
  refine (below_any w1 B a len cap z 3 (by decide) (by decide) hc1).mono ?_
  rintro e w2 ⟨i, hi, rfl, ho2, hc2⟩
  have hr2 := hr1.call ho2
  clear hr1 ho2 hc1
  go_wp2_with fail
  refine (below_any w2 B a len cap z 20 (by decide) (by decide) hc2).mono ?_
  rintro e w3 ⟨t, ht, rfl, ho3, hc3⟩
  have hr3 := hr2.call ho3
  clear hr2 ho3 hc2
  go_upto_region 2 with fail
  obtain ⟨W4, hW4⟩ : ∃ W : World, W = w3.alloc (.cells #[.int .i64 (1 + (k : Int)), .int .i64 0, .int .i64 0, .int .i64 (i : Int), .int .i64 (t : Int), .int .i64 0] 28) := ⟨_, rfl⟩
  rw [← hW4]
  have lf : Loc w B w3.heap.size 28 #[.int .i64 (1 + (k : Int)), .int .i64 0, .int .i64 0, .int .i64 (i : Int), .int .i64 (t : Int), .int .i64 0] W4 := by rw [hW4]; exact Loc.mk_new hr3.only hc3.lt
  have lr : Loc w B w.heap.size 28 #[.int .i64 0, .int .i64 0, .int .i64 0, .int .i64 0, .int .i64 0, .int .i64 0] W4 := by rw [hW4]; exact hr3.alloc _
  have hc4 : Cur W4 B a len cap z := by rw [hW4]; exact hc3.alloc _
  have hRF : w.heap.size ≠ w3.heap.size := Nat.ne_of_lt hr3.lt
  clear hW4 hr3 hc3
  generalize w3.heap.size = F at lf hRF ⊢
  have ld := lf.drew
  have hcd : Cur W4.drew B a len cap z := hc4.drewN 1
  have lrd := lr.drew
  go_region_held3 (fun w' => w'.cell? ⟨F, 4, none⟩ = some (.int .i64 (t : Int)))
    (first | exact ld.cell 4 rfl | exact l5.1.cell 4 rfl | exact (l5.1.set 5 _).cell 4 rfl)
    (first
      | (go_at_call 49; (with_reducible refine (below_any _ B a len cap z 30 (by decide) (by decide) hcd).mono ?_); rintro e5 w5 ⟨u, hu, rfl, ho5, hc5⟩; have l5 := call_step ld lrd ho5; have e5 : IntKind.i64.wrap ((t : Int) + (u : Int)) = (t : Int) + (u : Int) := IntWalk.i64_in _ (by omega); have c5 := l5.1.cell 5 rfl; have f5 := l5.1.frozen 5))
  obtain ⟨W6, hW6, lf6, lr6, hc6⟩ := store_step l5.1 l5.2 hc5 hc.lt hRF 5 (.int .i64 ((t : Int) + (u : Int)))
  rw [← hW6]
  clear hW6 l5 hc5 ho5 c5 f5 ld lrd hcd lf lr hc4
  simp only [List.setIfInBounds_toArray, List.set_cons_succ, List.set_cons_zero] at lf6
  have hBR : B < w.heap.size := hc.lt
  have c0 := lf6.cell 0 rfl
  have hk4 : k = 0 ∨ k = 1 ∨ k = 2 ∨ k = 3 := by omega
  clear e5 hc hk
  rcases hk4 with rfl | rfl | rfl | rfl
  · skip
    go_wp2_with fail
    refine (name_any W6 B a len cap z 1 (by decide) (by decide) hc6).mono ?_
    rintro e w7 ⟨s, hs0, hs1, rfl, ho7, hc7⟩
    obtain ⟨lf7, lr7⟩ := call_step lf6 lr6 ho7
    clear c0
    have c8 := lf7.cell 1 rfl
    have f8 := lf7.frozen 1
    go_wp2_with fail
    obtain ⟨W8, hW8, lf8, lr8, hc8⟩ := store_step lf7 lr7 hc7 hBR hRF 1 (.int .i64 s)
    rw [← hW8]
    clear hW8 c8 f8 lf7 lr7 hc7 ho7
    simp only [List.setIfInBounds_toArray, List.set_cons_succ, List.set_cons_zero] at lf8
    refine (below_any W8 B a len cap z 4 (by decide) (by decide) hc8).mono ?_
    rintro e w9 ⟨v, hv, rfl, ho9, hc9⟩
    obtain ⟨lf9, lr9⟩ := call_step lf8 lr8 ho9
    clear lf8 lr8 hc8
    have c9 := lf9.cell 2 rfl
    have f9 := lf9.frozen 2
    go_upto_region 15 with fail
    obtain ⟨W10, hW10, lf10, lr10, hc10⟩ := store_step lf9 lr9 hc9 hBR hRF 2 (.int .i64 (v : Int))
    rw [← hW10]
    clear hW10 c9 f9 lf9 lr9 hc9 ho9
    simp only [List.setIfInBounds_toArray, List.set_cons_succ, List.set_cons_zero] at lf10
    have c0 := lf10.cell 0 rfl
    have c1 := lf10.cell 1 rfl
    have c2 := lf10.cell 2 rfl
    have c3 := lf10.cell 3 rfl
    have c4 := lf10.cell 4 rfl
    have c5 := lf10.cell 5 rfl
    have r0 := lr10.cell 0 rfl
    have r1 := lr10.cell 1 rfl
    have r2 := lr10.cell 2 rfl
    have r3 := lr10.cell 3 rfl
    have r4 := lr10.cell 4 rfl
    have r5 := lr10.cell 5 rfl
    have f0 := lr10.frozen 0
    have f1 := lr10.frozen 1
    have f2 := lr10.frozen 2
    have f3 := lr10.frozen 3
    have f4 := lr10.frozen 4
    have f5 := lr10.frozen 5
    go_wp2
    refine bodyPost_ret (v := .agg #[.int .i64 1, .int .i64 s, .int .i64 (v : Int), .int .i64 (i : Int), .int .i64 (t : Int), .int .i64 ((t : Int) + (u : Int))]) (by simp [results, Tryz.results66, go_sem, r0, r1, r2, r3, r4, r5]) rfl ?_
    exact ⟨⟨1, s, (v : Int), i, t, (t : Int) + (u : Int)⟩, FactD.wf_mk (by omega) (by omega) (by omega) (by omega) (by omega) (by omega), rfl, ((((((lr10.set 0 _).set 1 _).set 2 _).set 3 _).set 4 _).set 5 _).only, (((((hc10.setFar hBR 0 _).setFar hBR 1 _).setFar hBR 2 _).setFar hBR 3 _).setFar hBR 4 _).setFar hBR 5 _⟩
  · skip
    go_wp2_with fail
    refine (name_any W6 B a len cap z 1 (by decide) (by decide) hc6).mono ?_
    rintro e w7 ⟨s, hs0, hs1, rfl, ho7, hc7⟩
    obtain ⟨lf7, lr7⟩ := call_step lf6 lr6 ho7
    clear c0
    have c8 := lf7.cell 1 rfl
    have f8 := lf7.frozen 1
    go_wp2_with fail
    obtain ⟨W8, hW8, lf8, lr8, hc8⟩ := store_step lf7 lr7 hc7 hBR hRF 1 (.int .i64 s)
    rw [← hW8]
    clear hW8 c8 f8 lf7 lr7 hc7 ho7
    simp only [List.setIfInBounds_toArray, List.set_cons_succ, List.set_cons_zero] at lf8
    refine (name_any W8 B a len cap z 2 (by decide) (by decide) hc8).mono ?_
    rintro e w9 ⟨v, hv0, hv1, rfl, ho9, hc9⟩
    obtain ⟨lf9, lr9⟩ := call_step lf8 lr8 ho9
    clear lf8 lr8 hc8
    have c9 := lf9.cell 2 rfl
    have f9 := lf9.frozen 2
    go_upto_region 15 with fail
    obtain ⟨W10, hW10, lf10, lr10, hc10⟩ := store_step lf9 lr9 hc9 hBR hRF 2 (.int .i64 v)
    rw [← hW10]
    clear hW10 c9 f9 lf9 lr9 hc9 ho9
    simp only [List.setIfInBounds_toArray, List.set_cons_succ, List.set_cons_zero] at lf10
    have c0 := lf10.cell 0 rfl
    have c1 := lf10.cell 1 rfl
    have c2 := lf10.cell 2 rfl
    have c3 := lf10.cell 3 rfl
    have c4 := lf10.cell 4 rfl
    have c5 := lf10.cell 5 rfl
    have r0 := lr10.cell 0 rfl
    have r1 := lr10.cell 1 rfl
    have r2 := lr10.cell 2 rfl
    have r3 := lr10.cell 3 rfl
    have r4 := lr10.cell 4 rfl
    have r5 := lr10.cell 5 rfl
    have f0 := lr10.frozen 0
    have f1 := lr10.frozen 1
    have f2 := lr10.frozen 2
    have f3 := lr10.frozen 3
    have f4 := lr10.frozen 4
    have f5 := lr10.frozen 5
    go_wp2
    refine bodyPost_ret (v := .agg #[.int .i64 2, .int .i64 s, .int .i64 v, .int .i64 (i : Int), .int .i64 (t : Int), .int .i64 ((t : Int) + (u : Int))]) (by simp [results, Tryz.results66, go_sem, r0, r1, r2, r3, r4, r5]) rfl ?_
    exact ⟨⟨2, s, v, i, t, (t : Int) + (u : Int)⟩, FactD.wf_mk (by omega) (by omega) (by omega) (by omega) (by omega) (by omega), rfl, ((((((lr10.set 0 _).set 1 _).set 2 _).set 3 _).set 4 _).set 5 _).only, (((((hc10.setFar hBR 0 _).setFar hBR 1 _).setFar hBR 2 _).setFar hBR 3 _).setFar hBR 4 _).setFar hBR 5 _⟩
  · skip
    go_wp2_with fail
    refine (name_any W6 B a len cap z 2 (by decide) (by decide) hc6).mono ?_
    rintro e w7 ⟨s, hs0, hs1, rfl, ho7, hc7⟩
    obtain ⟨lf7, lr7⟩ := call_step lf6 lr6 ho7
    clear c0
    have c8 := lf7.cell 1 rfl
    have f8 := lf7.frozen 1
    go_wp2_with fail
    obtain ⟨W8, hW8, lf8, lr8, hc8⟩ := store_step lf7 lr7 hc7 hBR hRF 1 (.int .i64 s)
    rw [← hW8]
    clear hW8 c8 f8 lf7 lr7 hc7 ho7
    simp only [List.setIfInBounds_toArray, List.set_cons_succ, List.set_cons_zero] at lf8
    refine (below_any W8 B a len cap z 4 (by decide) (by decide) hc8).mono ?_
    rintro e w9 ⟨v, hv, rfl, ho9, hc9⟩
    obtain ⟨lf9, lr9⟩ := call_step lf8 lr8 ho9
    clear lf8 lr8 hc8
    have c9 := lf9.cell 2 rfl
    have f9 := lf9.frozen 2
    go_upto_region 15 with fail
    obtain ⟨W10, hW10, lf10, lr10, hc10⟩ := store_step lf9 lr9 hc9 hBR hRF 2 (.int .i64 (v : Int))
    rw [← hW10]
    clear hW10 c9 f9 lf9 lr9 hc9 ho9
    simp only [List.setIfInBounds_toArray, List.set_cons_succ, List.set_cons_zero] at lf10
    have c0 := lf10.cell 0 rfl
    have c1 := lf10.cell 1 rfl
    have c2 := lf10.cell 2 rfl
    have c3 := lf10.cell 3 rfl
    have c4 := lf10.cell 4 rfl
    have c5 := lf10.cell 5 rfl
    have r0 := lr10.cell 0 rfl
    have r1 := lr10.cell 1 rfl
    have r2 := lr10.cell 2 rfl
    have r3 := lr10.cell 3 rfl
    have r4 := lr10.cell 4 rfl
    have r5 := lr10.cell 5 rfl
    have f0 := lr10.frozen 0
    have f1 := lr10.frozen 1
    have f2 := lr10.frozen 2
    have f3 := lr10.frozen 3
    have f4 := lr10.frozen 4
    have f5 := lr10.frozen 5
    go_wp2
    refine bodyPost_ret (v := .agg #[.int .i64 3, .int .i64 s, .int .i64 (v : Int), .int .i64 (i : Int), .int .i64 (t : Int), .int .i64 ((t : Int) + (u : Int))]) (by simp [results, Tryz.results66, go_sem, r0, r1, r2, r3, r4, r5]) rfl ?_
    exact ⟨⟨3, s, (v : Int), i, t, (t : Int) + (u : Int)⟩, FactD.wf_mk (by omega) (by omega) (by omega) (by omega) (by omega) (by omega), rfl, ((((((lr10.set 0 _).set 1 _).set 2 _).set 3 _).set 4 _).set 5 _).only, (((((hc10.setFar hBR 0 _).setFar hBR 1 _).setFar hBR 2 _).setFar hBR 3 _).setFar hBR 4 _).setFar hBR 5 _⟩
  · skip
    go_wp2_with fail
    refine (name_any W6 B a len cap z 3 (by decide) (by decide) hc6).mono ?_
    rintro e w7 ⟨s, hs0, hs1, rfl, ho7, hc7⟩
    obtain ⟨lf7, lr7⟩ := call_step lf6 lr6 ho7
    clear c0
    have c8 := lf7.cell 1 rfl
    have f8 := lf7.frozen 1
    go_wp2_with fail
    obtain ⟨W8, hW8, lf8, lr8, hc8⟩ := store_step lf7 lr7 hc7 hBR hRF 1 (.int .i64 s)
    rw [← hW8]
    clear hW8 c8 f8 lf7 lr7 hc7 ho7
    simp only [List.setIfInBounds_toArray, List.set_cons_succ, List.set_cons_zero] at lf8
    refine (below_any W8 B a len cap z 4 (by decide) (by decide) hc8).mono ?_
    rintro e w9 ⟨v, hv, rfl, ho9, hc9⟩
    obtain ⟨lf9, lr9⟩ := call_step lf8 lr8 ho9
    clear lf8 lr8 hc8
    have c9 := lf9.cell 2 rfl
    have f9 := lf9.frozen 2
    go_upto_region 15 with fail
    obtain ⟨W10, hW10, lf10, lr10, hc10⟩ := store_step lf9 lr9 hc9 hBR hRF 2 (.int .i64 (v : Int))
    rw [← hW10]
    clear hW10 c9 f9 lf9 lr9 hc9 ho9
    simp only [List.setIfInBounds_toArray, List.set_cons_succ, List.set_cons_zero] at lf10
    have c0 := lf10.cell 0 rfl
    have c1 := lf10.cell 1 rfl
    have c2 := lf10.cell 2 rfl
    have c3 := lf10.cell 3 rfl
    have c4 := lf10.cell 4 rfl
    have c5 := lf10.cell 5 rfl
    have r0 := lr10.cell 0 rfl
    have r1 := lr10.cell 1 rfl
    have r2 := lr10.cell 2 rfl
    have r3 := lr10.cell 3 rfl
    have r4 := lr10.cell 4 rfl
    have r5 := lr10.cell 5 rfl
    have f0 := lr10.frozen 0
    have f1 := lr10.frozen 1
    have f2 := lr10.frozen 2
    have f3 := lr10.frozen 3
    have f4 := lr10.frozen 4
    have f5 := lr10.frozen 5
    go_wp2
    refine bodyPost_ret (v := .agg #[.int .i64 4, .int .i64 s, .int .i64 (v : Int), .int .i64 (i : Int), .int .i64 (t : Int), .int .i64 ((t : Int) + (u : Int))]) (by simp [results, Tryz.results66, go_sem, r0, r1, r2, r3, r4, r5]) rfl ?_
    exact ⟨⟨4, s, (v : Int), i, t, (t : Int) + (u : Int)⟩, FactD.wf_mk (by omega) (by omega) (by omega) (by omega) (by omega) (by omega), rfl, ((((((lr10.set 0 _).set 1 _).set 2 _).set 3 _).set 4 _).set 5 _).only, (((((hc10.setFar hBR 0 _).setFar hBR 1 _).setFar hBR 2 _).setFar hBR 3 _).setFar hBR 4 _).setFar hBR 5 _⟩
set_option maxHeartbeats 4000000 in
theorem anyFact_any (w : World) (B : Nat) (a : Option Addr) (len cap : Nat) (z : List Int) (hc : Cur w B a len cap z) :
    Calls Tryz.prog 33 #[.pointer (some ⟨B, 0, none⟩)] w fun e w' => ∃ x : FactD, x.wf ∧ e = .returned x.val ∧ Only B w w' ∧ Cur w' B a len cap z := by
  have hr : Loc w B w.heap.size 28 #[.int .i64 0, .int .i64 0, .int .i64 0, .int .i64 0, .int .i64 0, .int .i64 0] (w.alloc (.cells #[.int .i64 0, .int .i64 0, .int .i64 0, .int .i64 0, .int .i64 0, .int .i64 0] 28)) := Loc.mk_new (Only.refl _ _) hc.lt
  have hBR : B < w.heap.size := hc.lt
  go_enter Tryz.func33, Tryz.ntmps33
  go_wp2_with fail
  refine (fact_any _ B a len cap z (hc.alloc _)).mono ?_
  rintro e w1 ⟨⟨k, s, v, i, t, u⟩, ⟨wk, ws, wv, wi, wt, wu⟩, rfl, ho1, hc1⟩
  have hr1 := hr.call ho1
  clear hr ho1 hc
  dsimp only at wk ws wv wi wt wu
  rw [FactD.val_mk]
  go_wp2_with fail
  obtain ⟨W4, hW4⟩ : ∃ W : World, W = w1.alloc (.cells #[.int .i64 k, .int .i64 s, .int .i64 v, .int .i64 i, .int .i64 t, .int .i64 u] 28) := ⟨_, rfl⟩
  rw [← hW4]
  have lf4 : Loc w B w1.heap.size 28 #[.int .i64 k, .int .i64 s, .int .i64 v, .int .i64 i, .int .i64 t, .int .i64 u] W4 := by rw [hW4]; exact Loc.mk_new hr1.only hc1.lt
  have lr4 : Loc w B w.heap.size 28 #[.int .i64 0, .int .i64 0, .int .i64 0, .int .i64 0, .int .i64 0, .int .i64 0] W4 := by rw [hW4]; exact hr1.alloc _
  have hc4 : Cur W4 B a len cap z := by rw [hW4]; exact hc1.alloc _
  have hRF : w.heap.size ≠ w1.heap.size := Nat.ne_of_lt hr1.lt
  clear hW4 hr1 hc1
  generalize w1.heap.size = F at lf4 hRF ⊢
  refine (below_any W4 B a len cap z 12 (by decide) (by decide) hc4).mono ?_
  rintro e w6 ⟨n, hn, rfl, ho6, hc6⟩
  obtain ⟨lf6, lr6⟩ := call_step lf4 lr4 ho6
  clear lf4 lr4 hc4 ho6
  have hn6 : n = 0 ∨ n = 1 ∨ n = 2 ∨ n = 3 ∨ n = 4 ∨ n = 5 ∨ 6 ≤ n := by omega
  clear hn
  rcases hn6 with rfl | rfl | rfl | rfl | rfl | rfl | hn
  · go_wp2_with fail
    refine (below_any w6 B a len cap z 6 (by decide) (by decide) hc6).mono ?_
    rintro e w7 ⟨q, q0, rfl, ho7, hc7⟩
    obtain ⟨lf7, lr7⟩ := call_step lf6 lr6 ho7
    clear lf6 lr6 hc6 ho7
    have c7 := lf7.cell 0 rfl
    have f7 := lf7.frozen 0
    go_upto_region 15 with fail
    obtain ⟨W10, hW10, lf10, lr10, hc10⟩ := store_step lf7 lr7 hc7 hBR hRF 0 (.int .i64 (q : Int))
    rw [← hW10]
    clear hW10 c7 f7 lf7 lr7 hc7
    simp only [List.setIfInBounds_toArray, List.set_cons_zero] at lf10
    have c0 := lf10.cell 0 rfl
    have c1 := lf10.cell 1 rfl
    have c2 := lf10.cell 2 rfl
    have c3 := lf10.cell 3 rfl
    have c4 := lf10.cell 4 rfl
    have c5 := lf10.cell 5 rfl
    have r0 := lr10.cell 0 rfl
    have r1 := lr10.cell 1 rfl
    have r2 := lr10.cell 2 rfl
    have r3 := lr10.cell 3 rfl
    have r4 := lr10.cell 4 rfl
    have r5 := lr10.cell 5 rfl
    have f0 := lr10.frozen 0
    have f1 := lr10.frozen 1
    have f2 := lr10.frozen 2
    have f3 := lr10.frozen 3
    have f4 := lr10.frozen 4
    have f5 := lr10.frozen 5
    go_wp2
    refine bodyPost_ret (v := .agg #[.int .i64 (q : Int), .int .i64 s, .int .i64 v, .int .i64 i, .int .i64 t, .int .i64 u]) (by simp [results, Tryz.results33, go_sem, r0, r1, r2, r3, r4, r5]) rfl ?_
    exact ⟨⟨(q : Int), s, v, i, t, u⟩, ⟨(show (Lit.int .i64 (q : Int)).wf = true from wf_i64 (by omega) (by omega)), ws, wv, wi, wt, wu⟩, rfl, ((((((lr10.set 0 _).set 1 _).set 2 _).set 3 _).set 4 _).set 5 _).only, (((((hc10.setFar hBR 0 _).setFar hBR 1 _).setFar hBR 2 _).setFar hBR 3 _).setFar hBR 4 _).setFar hBR 5 _⟩
  · go_wp2_with fail
    refine (any_any w6 B a len cap z hc6).mono ?_
    rintro e w7 ⟨q, q0, q1, rfl, ho7, hc7⟩
    obtain ⟨lf7, lr7⟩ := call_step lf6 lr6 ho7
    clear lf6 lr6 hc6 ho7
    have c7 := lf7.cell 1 rfl
    have f7 := lf7.frozen 1
    go_upto_region 15 with fail
    obtain ⟨W10, hW10, lf10, lr10, hc10⟩ := store_step lf7 lr7 hc7 hBR hRF 1 (.int .i64 q)
    rw [← hW10]
    clear hW10 c7 f7 lf7 lr7 hc7
    simp only [List.setIfInBounds_toArray, List.set_cons_succ, List.set_cons_zero] at lf10
    have c0 := lf10.cell 0 rfl
    have c1 := lf10.cell 1 rfl
    have c2 := lf10.cell 2 rfl
    have c3 := lf10.cell 3 rfl
    have c4 := lf10.cell 4 rfl
    have c5 := lf10.cell 5 rfl
    have r0 := lr10.cell 0 rfl
    have r1 := lr10.cell 1 rfl
    have r2 := lr10.cell 2 rfl
    have r3 := lr10.cell 3 rfl
    have r4 := lr10.cell 4 rfl
    have r5 := lr10.cell 5 rfl
    have f0 := lr10.frozen 0
    have f1 := lr10.frozen 1
    have f2 := lr10.frozen 2
    have f3 := lr10.frozen 3
    have f4 := lr10.frozen 4
    have f5 := lr10.frozen 5
    go_wp2
    refine bodyPost_ret (v := .agg #[.int .i64 k, .int .i64 q, .int .i64 v, .int .i64 i, .int .i64 t, .int .i64 u]) (by simp [results, Tryz.results33, go_sem, r0, r1, r2, r3, r4, r5]) rfl ?_
    exact ⟨⟨k, q, v, i, t, u⟩, ⟨wk, (show (Lit.int .i64 q).wf = true from wf_i64 (by omega) (by omega)), wv, wi, wt, wu⟩, rfl, ((((((lr10.set 0 _).set 1 _).set 2 _).set 3 _).set 4 _).set 5 _).only, (((((hc10.setFar hBR 0 _).setFar hBR 1 _).setFar hBR 2 _).setFar hBR 3 _).setFar hBR 4 _).setFar hBR 5 _⟩
  · go_wp2_with fail
    refine (int_in (-1) 20 (by decide) (by decide) _ B a len cap z _ _ _ (by decide) (by decide) (ints_litB (-1) 20 w6 B hc6.lt _ _ _ (by decide)) (hc6.alloc _)).mono ?_
    rintro e w7 ⟨q, q0, q1, rfl, ho7, hc7⟩
    have ho7 := ((Only.refl B w6).alloc _).trans ho7
    obtain ⟨lf7, lr7⟩ := call_step lf6 lr6 ho7
    clear lf6 lr6 hc6 ho7
    have c7 := lf7.cell 2 rfl
    have f7 := lf7.frozen 2
    go_upto_region 15 with fail
    obtain ⟨W10, hW10, lf10, lr10, hc10⟩ := store_step lf7 lr7 hc7 hBR hRF 2 (.int .i64 q)
    rw [← hW10]
    clear hW10 c7 f7 lf7 lr7 hc7
    simp only [List.setIfInBounds_toArray, List.set_cons_succ, List.set_cons_zero] at lf10
    have c0 := lf10.cell 0 rfl
    have c1 := lf10.cell 1 rfl
    have c2 := lf10.cell 2 rfl
    have c3 := lf10.cell 3 rfl
    have c4 := lf10.cell 4 rfl
    have c5 := lf10.cell 5 rfl
    have r0 := lr10.cell 0 rfl
    have r1 := lr10.cell 1 rfl
    have r2 := lr10.cell 2 rfl
    have r3 := lr10.cell 3 rfl
    have r4 := lr10.cell 4 rfl
    have r5 := lr10.cell 5 rfl
    have f0 := lr10.frozen 0
    have f1 := lr10.frozen 1
    have f2 := lr10.frozen 2
    have f3 := lr10.frozen 3
    have f4 := lr10.frozen 4
    have f5 := lr10.frozen 5
    go_wp2
    refine bodyPost_ret (v := .agg #[.int .i64 k, .int .i64 s, .int .i64 q, .int .i64 i, .int .i64 t, .int .i64 u]) (by simp [results, Tryz.results33, go_sem, r0, r1, r2, r3, r4, r5]) rfl ?_
    exact ⟨⟨k, s, q, i, t, u⟩, ⟨wk, ws, (show (Lit.int .i64 q).wf = true from wf_i64 (by omega) (by omega)), wi, wt, wu⟩, rfl, ((((((lr10.set 0 _).set 1 _).set 2 _).set 3 _).set 4 _).set 5 _).only, (((((hc10.setFar hBR 0 _).setFar hBR 1 _).setFar hBR 2 _).setFar hBR 3 _).setFar hBR 4 _).setFar hBR 5 _⟩
  · go_wp2_with fail
    refine (int_in (-1) 10 (by decide) (by decide) _ B a len cap z _ _ _ (by decide) (by decide) (ints_litB (-1) 10 w6 B hc6.lt _ _ _ (by decide)) (hc6.alloc _)).mono ?_
    rintro e w7 ⟨q, q0, q1, rfl, ho7, hc7⟩
    have ho7 := ((Only.refl B w6).alloc _).trans ho7
    obtain ⟨lf7, lr7⟩ := call_step lf6 lr6 ho7
    clear lf6 lr6 hc6 ho7
    have c7 := lf7.cell 3 rfl
    have f7 := lf7.frozen 3
    go_upto_region 15 with fail
    obtain ⟨W10, hW10, lf10, lr10, hc10⟩ := store_step lf7 lr7 hc7 hBR hRF 3 (.int .i64 q)
    rw [← hW10]
    clear hW10 c7 f7 lf7 lr7 hc7
    simp only [List.setIfInBounds_toArray, List.set_cons_succ, List.set_cons_zero] at lf10
    have c0 := lf10.cell 0 rfl
    have c1 := lf10.cell 1 rfl
    have c2 := lf10.cell 2 rfl
    have c3 := lf10.cell 3 rfl
    have c4 := lf10.cell 4 rfl
    have c5 := lf10.cell 5 rfl
    have r0 := lr10.cell 0 rfl
    have r1 := lr10.cell 1 rfl
    have r2 := lr10.cell 2 rfl
    have r3 := lr10.cell 3 rfl
    have r4 := lr10.cell 4 rfl
    have r5 := lr10.cell 5 rfl
    have f0 := lr10.frozen 0
    have f1 := lr10.frozen 1
    have f2 := lr10.frozen 2
    have f3 := lr10.frozen 3
    have f4 := lr10.frozen 4
    have f5 := lr10.frozen 5
    go_wp2
    refine bodyPost_ret (v := .agg #[.int .i64 k, .int .i64 s, .int .i64 v, .int .i64 q, .int .i64 t, .int .i64 u]) (by simp [results, Tryz.results33, go_sem, r0, r1, r2, r3, r4, r5]) rfl ?_
    exact ⟨⟨k, s, v, q, t, u⟩, ⟨wk, ws, wv, (show (Lit.int .i64 q).wf = true from wf_i64 (by omega) (by omega)), wt, wu⟩, rfl, ((((((lr10.set 0 _).set 1 _).set 2 _).set 3 _).set 4 _).set 5 _).only, (((((hc10.setFar hBR 0 _).setFar hBR 1 _).setFar hBR 2 _).setFar hBR 3 _).setFar hBR 4 _).setFar hBR 5 _⟩
  · go_wp2_with fail
    refine (time_any w6 B a len cap z hc6).mono ?_
    rintro e w7 ⟨q, q0, q1, rfl, ho7, hc7⟩
    obtain ⟨lf7, lr7⟩ := call_step lf6 lr6 ho7
    clear lf6 lr6 hc6 ho7
    have c7 := lf7.cell 4 rfl
    have f7 := lf7.frozen 4
    go_upto_region 15 with fail
    obtain ⟨W10, hW10, lf10, lr10, hc10⟩ := store_step lf7 lr7 hc7 hBR hRF 4 (.int .i64 q)
    rw [← hW10]
    clear hW10 c7 f7 lf7 lr7 hc7
    simp only [List.setIfInBounds_toArray, List.set_cons_succ, List.set_cons_zero] at lf10
    have c0 := lf10.cell 0 rfl
    have c1 := lf10.cell 1 rfl
    have c2 := lf10.cell 2 rfl
    have c3 := lf10.cell 3 rfl
    have c4 := lf10.cell 4 rfl
    have c5 := lf10.cell 5 rfl
    have r0 := lr10.cell 0 rfl
    have r1 := lr10.cell 1 rfl
    have r2 := lr10.cell 2 rfl
    have r3 := lr10.cell 3 rfl
    have r4 := lr10.cell 4 rfl
    have r5 := lr10.cell 5 rfl
    have f0 := lr10.frozen 0
    have f1 := lr10.frozen 1
    have f2 := lr10.frozen 2
    have f3 := lr10.frozen 3
    have f4 := lr10.frozen 4
    have f5 := lr10.frozen 5
    go_wp2
    refine bodyPost_ret (v := .agg #[.int .i64 k, .int .i64 s, .int .i64 v, .int .i64 i, .int .i64 q, .int .i64 u]) (by simp [results, Tryz.results33, go_sem, r0, r1, r2, r3, r4, r5]) rfl ?_
    exact ⟨⟨k, s, v, i, q, u⟩, ⟨wk, ws, wv, wi, (show (Lit.int .i64 q).wf = true from wf_i64 (by omega) (by omega)), wu⟩, rfl, ((((((lr10.set 0 _).set 1 _).set 2 _).set 3 _).set 4 _).set 5 _).only, (((((hc10.setFar hBR 0 _).setFar hBR 1 _).setFar hBR 2 _).setFar hBR 3 _).setFar hBR 4 _).setFar hBR 5 _⟩
  · go_wp2_with fail
    refine (time_any w6 B a len cap z hc6).mono ?_
    rintro e w7 ⟨q, q0, q1, rfl, ho7, hc7⟩
    obtain ⟨lf7, lr7⟩ := call_step lf6 lr6 ho7
    clear lf6 lr6 hc6 ho7
    have c7 := lf7.cell 5 rfl
    have f7 := lf7.frozen 5
    go_upto_region 15 with fail
    obtain ⟨W10, hW10, lf10, lr10, hc10⟩ := store_step lf7 lr7 hc7 hBR hRF 5 (.int .i64 q)
    rw [← hW10]
    clear hW10 c7 f7 lf7 lr7 hc7
    simp only [List.setIfInBounds_toArray, List.set_cons_succ, List.set_cons_zero] at lf10
    have c0 := lf10.cell 0 rfl
    have c1 := lf10.cell 1 rfl
    have c2 := lf10.cell 2 rfl
    have c3 := lf10.cell 3 rfl
    have c4 := lf10.cell 4 rfl
    have c5 := lf10.cell 5 rfl
    have r0 := lr10.cell 0 rfl
    have r1 := lr10.cell 1 rfl
    have r2 := lr10.cell 2 rfl
    have r3 := lr10.cell 3 rfl
    have r4 := lr10.cell 4 rfl
    have r5 := lr10.cell 5 rfl
    have f0 := lr10.frozen 0
    have f1 := lr10.frozen 1
    have f2 := lr10.frozen 2
    have f3 := lr10.frozen 3
    have f4 := lr10.frozen 4
    have f5 := lr10.frozen 5
    go_wp2
    refine bodyPost_ret (v := .agg #[.int .i64 k, .int .i64 s, .int .i64 v, .int .i64 i, .int .i64 t, .int .i64 q]) (by simp [results, Tryz.results33, go_sem, r0, r1, r2, r3, r4, r5]) rfl ?_
    exact ⟨⟨k, s, v, i, t, q⟩, ⟨wk, ws, wv, wi, wt, (show (Lit.int .i64 q).wf = true from wf_i64 (by omega) (by omega))⟩, rfl, ((((((lr10.set 0 _).set 1 _).set 2 _).set 3 _).set 4 _).set 5 _).only, (((((hc10.setFar hBR 0 _).setFar hBR 1 _).setFar hBR 2 _).setFar hBR 3 _).setFar hBR 4 _).setFar hBR 5 _⟩
  · have n0 : ((n : Int) == 0) = false := by rw [beq_eq_false_iff_ne]; omega
    have n1 : ((n : Int) == 1) = false := by rw [beq_eq_false_iff_ne]; omega
    have n2 : ((n : Int) == 2) = false := by rw [beq_eq_false_iff_ne]; omega
    have n3 : ((n : Int) == 3) = false := by rw [beq_eq_false_iff_ne]; omega
    have n4 : ((n : Int) == 4) = false := by rw [beq_eq_false_iff_ne]; omega
    have n5 : ((n : Int) == 5) = false := by rw [beq_eq_false_iff_ne]; omega
    have c0 := lf6.cell 0 rfl
    have c1 := lf6.cell 1 rfl
    have c2 := lf6.cell 2 rfl
    have c3 := lf6.cell 3 rfl
    have c4 := lf6.cell 4 rfl
    have c5 := lf6.cell 5 rfl
    have r0 := lr6.cell 0 rfl
    have r1 := lr6.cell 1 rfl
    have r2 := lr6.cell 2 rfl
    have r3 := lr6.cell 3 rfl
    have r4 := lr6.cell 4 rfl
    have r5 := lr6.cell 5 rfl
    have f0 := lr6.frozen 0
    have f1 := lr6.frozen 1
    have f2 := lr6.frozen 2
    have f3 := lr6.frozen 3
    have f4 := lr6.frozen 4
    have f5 := lr6.frozen 5
    go_wp2
    refine bodyPost_ret (v := .agg #[.int .i64 k, .int .i64 s, .int .i64 v, .int .i64 i, .int .i64 t, .int .i64 u]) (by simp [results, Tryz.results33, go_sem, r0, r1, r2, r3, r4, r5]) rfl ?_
    exact ⟨⟨k, s, v, i, t, u⟩, ⟨wk, ws, wv, wi, wt, wu⟩, rfl, ((((((lr6.set 0 _).set 1 _).set 2 _).set 3 _).set 4 _).set 5 _).only, (((((hc6.setFar hBR 0 _).setFar hBR 1 _).setFar hBR 2 _).setFar hBR 3 _).setFar hBR 4 _).setFar hBR 5 _⟩
end Go.Proofs.YtjfmmingkciapaaGreatDoor
/- The draws of chapter 6's inputs, from facts drawn. -/
namespace Go.Proofs.YtjfmmingkciapaaGreatDoor
open Go.ChangeShapes Go.WideShapes Go.ChangeAt Go.RowKit
set_option linter.unusedVariables false

/-- Two facts drawn. -/
def TwoFacts (w : World) (e : Ending) (w' : World) : Prop := ∃ x y : FactD, x.wf ∧ y.wf ∧ e = .returned (.tuple #[x.val, y.val]) ∧ Below w.heap.size w w'
end Go.Proofs.YtjfmmingkciapaaGreatDoor
