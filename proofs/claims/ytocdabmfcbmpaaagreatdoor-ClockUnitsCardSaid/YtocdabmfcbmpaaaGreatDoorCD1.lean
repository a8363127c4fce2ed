import Derived.Test.YtocdabmfcbmpaaaGreatDoorCC8
namespace Go.Proofs.YtocdabmfcbmpaaaGreatDoor
open Go.RowKit
set_option linter.unusedVariables false
set_option linter.unusedSimpArgs false

/-! ### the pieces of a form -/
def bytesL (s : ByteArray) : List Nat := s.data.toList.map UInt8.toNat
theorem bytesL_length (s : ByteArray) : (bytesL s).length = s.size := by simp [bytesL]
theorem bytesL_get (s : ByteArray) (k : Nat) (h : k < s.size) : (bytesL s)[k]'(by rw [bytesL_length]; exact h) = (s[k]).toNat := by
  simp [bytesL]; rfl
theorem bytesL_drop (s : ByteArray) (k : Nat) (h : k < s.size) : (bytesL s).drop k = (s[k]).toNat :: (bytesL s).drop (k + 1) := by
  rw [List.drop_eq_getElem_cons (by rw [bytesL_length]; exact h), bytesL_get s k h]
def inD : List (Nat × Nat) := [(109, 0), (0, 47), (100, 0), (0, 47), (89, 0)]
def inT : List (Nat × Nat) := [(72, 0), (0, 58), (77, 0), (0, 58), (83, 0)]
/-- the pieces of a form; none if it is none. -/
def pcs : List Nat → Option (List (Nat × Nat))
  | [] => some []
  | c :: rest =>
    if c = 37 then
      match rest with
      | [] => none
      | d :: rest =>
        if d = 37 then (pcs rest).map fun l => (0, 37) :: l
        else if d = 68 then (pcs rest).map fun l => inD ++ l
        else if d = 84 then (pcs rest).map fun l => inT ++ l
        else if (letL.lookup d).isSome then (pcs rest).map fun l => (d, 0) :: l
        else none
    else (pcs rest).map fun l => (0, c) :: l
def flat (l : List (Nat × Nat)) : List Value := l.flatMap fun p => [.int .u8 p.1, .int .u8 p.2]
theorem flat_length (l : List (Nat × Nat)) : (flat l).length = l.length * 2 := by
  induction l with
  | nil => rfl
  | cons p l ih => show (flat l).length + 1 + 1 = _; rw [ih, List.length_cons]; omega
theorem flat_append (l m : List (Nat × Nat)) : flat (l ++ m) = flat l ++ flat m := List.flatMap_append
/-- pieces that lie in a slice of the call's own. -/
def PRow (B : Nat) (W : World) (v : Value) (l : List (Nat × Nat)) : Prop := W.ownsRow B 67 2 v l.length (flat l)
theorem info68 : (Tryz.prog.info? 67).map (fun i => (i.zero, i.size, i.bytes)) = some (some (.agg #[.int .u8 0, .int .u8 0]), 2, 2) := by kernel_rfl
theorem flat_cell (l : List (Nat × Nat)) (u : Value) (h : u ∈ flat l) : u.oneCell' = true := by
  unfold flat at h
  simp at h
  obtain ⟨a, b, _, h | h⟩ := h <;> subst h <;> rfl
theorem PRow.below {B : Nat} {W W' : World} {v : Value} {l : List (Nat × Nat)} (h : PRow B W v l) (hb : Below W.heap.size W W') : PRow B W' v l := by
  refine World.ownsRow.kept h (row := none) ⟨hb.os, hb.tape, hb.output, hb.size, fun k hk _ => hb.block k hk⟩ ?_
  cases hv : v.ownBlock with
  | none => exact Or.inl rfl
  | some k => exact Or.inr (by simp)
/-- pieces are put behind pieces. -/
theorem wpList_appP {ops : Array Oper} {rest : List Oper} {o : Oper} {a : Act} {Q : Exit → Act → World → Prop} (hgd : o.guard = none) (s x : Operand)
    (ho : o.op = .call { callee := .builtin .append, args := #[s, x], argTypes := #[58, 58] }) (B : Nat) (W : World) (v : Value) (l : List (Nat × Nat)) (hs : a.eval s = v) (h : PRow B W v l)
    (ad : Addr) (m c : Nat) (q : List (Nat × Nat)) (hx : a.eval x = .slice (some ad) m c) (hq : q.length = m) (hnews : ∀ j u, (flat q)[j]? = some u → W.cell? (ad.add j) = some u)
    (hl : l.length + m ≤ 1000000000) (hB : B ≤ W.heap.size)
    (hK : ∀ v' W', PRow B W' v' (l ++ q) → Below B W W' → (∃ ao n cap, v' = .slice ao n cap) → wpList Tryz.prog ops Q rest (a.put o.dst v') W') : wpList Tryz.prog ops Q (o :: rest) a W := by
  obtain ⟨i0, hi, hz0, hz1, hz2⟩ := info_parts info68
  refine wpList_append_own W hgd s x 58 ho B 67 i0 (.agg #[.int .u8 0, .int .u8 0]) 2 2 Tryz.underlying58 hi hz0 hz1 hz2 rfl (by decide) v l.length (flat l) hs h ad m c (flat q) hx (by rw [flat_length, hq]) hnews (flat_cell q) (by unfold maxLen; omega) (by omega) hB ?_
  intro v' W' h1 h2 h3
  refine hK v' W' ?_ ((Below.refl B W).grown h2 hB (fun k hk => (World.ownsRow.lt h k hk).1)) ?_
  · unfold PRow; rw [List.length_append, hq, flat_append]; exact h1
  · rcases h1.2 with ⟨h4, _⟩ | ⟨g, cap, cur, h4, _⟩
    · exact ⟨_, _, _, h4⟩
    · exact ⟨_, _, _, h4⟩
end Go.Proofs.YtocdabmfcbmpaaaGreatDoor
