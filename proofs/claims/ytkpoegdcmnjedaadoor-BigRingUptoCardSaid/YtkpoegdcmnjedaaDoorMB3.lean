import Derived.Test.YtkpoegdcmnjedaaDoorMB2
import Derived.Laws.BitsAllLaws
namespace Go.Proofs.YtkpoegdcmnjedaaDoor
open Go.RowKit
set_option linter.unusedVariables false
set_option linter.unusedSimpArgs false

theorem val_drop {b : Nat} {l : List Nat} {k : Nat} (h : k < l.length) : val b (l.drop k) = dg l k + b * val b (l.drop (k + 1)) := by
  rw [List.drop_eq_getElem_cons h, val_cons]
  simp [dg, h]
theorem or_add {a x i : Nat} (hx : x < 2 ^ i) : a * 2 ^ i ||| x = a * 2 ^ i + x := by
  have := Nat.shiftLeft_add_eq_or_of_lt hx a
  rw [Nat.shiftLeft_eq] at this
  exact this.symm
theorem or64 {a x i : Nat} (hx : x < 2 ^ i) (ha : a * 2 ^ i < 18446744073709551616) (h64 : x < 18446744073709551616) : bits .or .u64 ((a * 2 ^ i : Nat) : Int) (x : Int) = ((a * 2 ^ i + x : Nat) : Int) := by
  rw [u64_or_nat _ _ ha h64, or_add hx]
theorem or32 {a x i : Nat} (hx : x < 2 ^ i) (ha : a * 2 ^ i < 4294967296) (h32 : x < 4294967296) : bits .or .u32 ((a * 2 ^ i : Nat) : Int) (x : Int) = ((a * 2 ^ i + x : Nat) : Int) := by
  rw [u32_or_nat _ _ ha h32, or_add hx]
theorem or_top {a x : Nat} (ha : a < 4294967296) (hx : x < 4294967296) : bits .or .u64 ((a : Int) * 4294967296) (x : Int) = ((a * 4294967296 + x : Nat) : Int) := by
  have := or64 (a := a) (x := x) (i := 32) (by simpa using hx) (by omega) (by omega)
  simpa using this
/-! ### parted -/
theorem Dig.set {b : Nat} {l : List Nat} (h : Dig b l) {d : Nat} (hd : d < b) (k : Nat) : Dig b (l.set k d) := by
  refine Dig.mem (Nat.lt_of_le_of_lt (Nat.zero_le _) hd) fun x hx => ?_
  rcases List.mem_or_eq_of_mem_set hx with h1 | rfl
  · exact h.of x h1
  · exact hd
theorem div_of {a y q r : Nat} (h : a = y * q + r) (hr : r < y) : a / y = q ∧ a % y = r := by
  subst h
  rw [Nat.mul_add_div (by omega), Nat.mul_add_mod, Nat.div_eq_of_lt hr, Nat.mod_eq_of_lt hr]
  exact ⟨rfl, rfl⟩
theorem parted_quo {rest x y : Nat} (hr : rest < y) (hx : x < B32) : (rest * B32 + x) / y < B32 := by
  refine Nat.div_lt_of_lt_mul ?_
  have h := Nat.mul_le_mul_right B32 (show rest + 1 ≤ y from hr)
  rw [Nat.add_mul] at h
  omega
theorem parted_step {l r : List Nat} {k x y rest : Nat} (hk : k < l.length) (hr : r.length = l.length) (hx : dg l k = x) (h : val B32 (l.drop (k + 1)) = y * val B32 (r.drop (k + 1)) + rest) :
    val B32 (l.drop k) = y * val B32 ((r.set k ((rest * B32 + x) / y)).drop k) + (rest * B32 + x) % y := by
  have h1 := Nat.div_add_mod (rest * B32 + x) y
  have e : ((r.set k ((rest * B32 + x) / y)).drop k) = ((rest * B32 + x) / y) :: r.drop (k + 1) := by
    rw [List.drop_eq_getElem_cons (by rw [List.length_set]; omega), List.getElem_set_self, List.drop_set_of_lt (by omega)]
  rw [e, val_cons, val_drop hk, hx, h, Nat.mul_add y]
  generalize val B32 (List.drop (k + 1) r) = z at *
  generalize (rest * B32 + x) / y = q at *
  rw [Nat.mul_add, Nat.mul_left_comm y B32 z, Nat.mul_comm B32 rest]
  omega
theorem M.set {B : Nat} {W : World} {g n cap : Nat} {l : List Nat} (h : M B W (.slice (some ⟨g, 0, none⟩) n cap) l) {i : Nat} (hi : i < l.length) (d : Nat) :
    M B (W.setCell ⟨g, i, none⟩ (.int .u32 (d : Int))) (.slice (some ⟨g, 0, none⟩) n cap) (l.set i d) := by
  obtain rfl := h.len
  have h2 := (World.ownsRow.stored h i (.int .u32 (d : Int))).1
  unfold M
  rw [List.length_set]
  have e : U32s (l.set i d) = (U32s l).set i (.int .u32 (d : Int)) := by simp [U32s, List.map_set]
  rw [e]
  exact h2
theorem M.free {B : Nat} {W : World} {g n cap : Nat} {l : List Nat} (h : M B W (.slice (some ⟨g, 0, none⟩) n cap) l) (i : Nat) : W.frozen? ⟨g, i, none⟩ = false := by
  obtain rfl := h.len
  exact World.ownsRow.frozenAt h i

structure PaI (l : List Nat) (y g : Nat) (W wr : World) (k : Nat) (r : List Nat) (rest : Nat) : Prop where
  len : r.length = l.length
  dig : Dig B32 r
  rl : rest < y
  eq : val B32 (l.drop k) = y * val B32 (r.drop k) + rest
  m : M W.heap.size wr (.slice (some ⟨g, 0, none⟩) l.length l.length) r
  b : Below W.heap.size W wr

set_option maxRecDepth 100000 in
set_option maxHeartbeats 1000000 in
theorem parted_any {B : Nat} {v : Value} {l : List Nat} {W : World} (y : Nat) (h : M B W v l) (hd : Dig B32 l) (hl : l.length ≤ 1000000) (hy : y < 4294967296) (hy0 : 0 < y) :
    Calls Tryd.prog 128 #[v, .int .u32 y] W fun e W' => (∃ v', e = .returned (.tuple #[v', .int .u32 ((val B32 l % y : Nat) : Int)]) ∧ M W.heap.size W' v' (digs B32 (val B32 l / y))) ∧ Below W.heap.size W W' := by
  obtain ⟨ao, cap, rfl, hc1, hc2⟩ := h.slice
  have H := Lib.hid h
  have HD := Lib.hid hd
  clear h hd
  obtain ⟨W1, hmk, hm0, hb0, hs0⟩ := make32 W l.length l.length (by omega) (by omega)
  have HI0 : Hid (PaI l y W.heap.size W W1 l.length (List.replicate l.length 0) 0) := Lib.hid ⟨by simp, Dig.mem (by decide) (by simp), hy0, by simp [val_nil], hm0, hb0⟩
  generalize hg1 : W.heap.size = g1 at HI0 hmk hs0 ⊢
  have HG1 := Lib.hid hg1
  clear hm0 hb0 hg1
  go_enter Tryd.func128, Tryd.ntmps128
  go_wp2
  go_loopw [7, 8] (fun rv iv wr => ∃ (k : Nat) (r : List Nat) (rest : Nat), iv = .int .i64 ((k : Int) - 1) ∧ rv = .int .u64 rest ∧ k ≤ l.length ∧ Hid (PaI l y g1 W wr k r rest)) (fun _ i _ => (intOf i + 1).toNat)
  case atStart => exact ⟨l.length, _, 0, rfl, rfl, Nat.le_refl _, HI0⟩
  case round =>
    obtain ⟨k, r, rest, rfl, rfl, hk, hi⟩ := hrel
    by_cases hlt : 0 < k
    · obtain ⟨k, rfl⟩ : ∃ k', k = k' + 1 := ⟨k - 1, by omega⟩
      have ek : ((k + 1 : Nat) : Int) - 1 = (k : Int) := by omega
      rw [ek]
      obtain ⟨g, rfl, _, _⟩ := H.out.block (show 0 < l.length by omega)
      have hcell := (hi.out.b.cell (p := ⟨g, k, none⟩) (by assumption)).trans (H.out.cell (show k < l.length by omega))
      have hx := HD.out.u32 k
      generalize hxe : dg l k = x at hcell hx
      have HX := Lib.hid hxe
      clear hxe
      have hrl := hi.out.rl
      have hc2 := hi.out.m.cell (show k < r.length by rw [hi.out.len]; omega)
      have hf2 := hi.out.m.free k
      have hrl2 : rest < 4294967296 := by omega
      have hor := or_top hrl2 hx
      have hq : (rest * 4294967296 + x) / y < 4294967296 := parted_quo hrl hx
      have hv : rest * 4294967296 + x ≤ 18446744073709551615 := by omega
      have hm : (rest * 4294967296 + x) % y < y := Nat.mod_lt _ hy0
      have HS : Hid (val B32 (l.drop k) = y * val B32 ((r.set k ((rest * B32 + x) / y)).drop k) + (rest * B32 + x) % y) := Lib.hid (parted_step (by omega) hi.out.len HX.out hi.out.eq)
      obtain ⟨v, HVE⟩ : ∃ v : Nat, Hid (v = rest * 4294967296 + x) := ⟨_, Lib.hid rfl⟩
      rw [← HVE.out] at hor hq hv hm
      obtain ⟨q, HQE⟩ : ∃ q : Nat, Hid (q = v / y) := ⟨_, Lib.hid rfl⟩
      have hqi : (v : Int) / (y : Int) = (q : Int) := by rw [HQE.out]; simp
      have HMI : Hid ((v : Int) % (y : Int) = ((v % y : Nat) : Int)) := Lib.hid (by simp)
      rw [← HQE.out] at hq
      go_wp2
      go_roundw
      case rel =>
        refine ⟨k, r.set k q, v % y, rfl, by rw [← HMI.out], by omega, Lib.hid ⟨by rw [List.length_set]; exact hi.out.len, ?_, hm, ?_, ?_, hi.out.b.setCell (by have := HG1.out; simp; omega) _⟩⟩
        · exact hi.out.dig.set hq k
        · rw [HQE.out, HVE.out]; exact HS.out
        · exact hi.out.m.set (by rw [hi.out.len]; omega) q
      case measure => simp [intOf] <;> omega
    · obtain rfl : k = 0 := by omega
      have ek : ((0 : Nat) : Int) - 1 = -1 := rfl
      rw [ek]
      have hrl := hi.out.rl
      go_wp2_with (go_at_call 125; refine (trimmed_any hi.out.m hi.out.dig).mono ?_; rintro e w2 ⟨rfl, rfl⟩)
      go_ret2
      obtain ⟨h1, h2⟩ := div_of (show val B32 l = y * val B32 r + rest from hi.out.eq) hrl
      rw [h1, h2]
      have hle : g1 ≤ W.heap.size := by rw [HG1.out]; exact Nat.le_refl _
      exact ⟨⟨_, rfl, (hi.out.m.trim hi.out.dig).mono hle⟩, hi.out.b.mono hle⟩
end Go.Proofs.YtkpoegdcmnjedaaDoor
