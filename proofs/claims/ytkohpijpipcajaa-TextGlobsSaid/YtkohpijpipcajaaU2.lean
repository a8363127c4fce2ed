import Derived.Test.YtkohpijpipcajaaU1
import Derived.Test.YtkohpijpipcajaaC1
namespace Go.Proofs.Ytkohpijpipcajaa
open Go.RowKit
set_option linter.unusedVariables false
set_option linter.unusedSimpArgs false

set_option maxRecDepth 100000 in
set_option maxHeartbeats 1000000 in
theorem ref_unescaped_any (s : ByteArray) (out : List UInt8) (w : World) (hs : s.size ≤ 400) (ho : UnSeq s out) (hl : out.length ≤ 400) :
    Calls Try.prog 36 #[.string s] w fun e w' => e = .returned (.string ⟨out.toArray⟩) ∧ Below w.heap.size w w' := by
  have HO := Lib.hid ho
  clear ho
  go_enter Try.func36, Try.ntmps36
  go_wp2
  go_loopw [0, 3] (fun r d wr => ∃ (R D : ByteArray) (o : List UInt8), r = .string R ∧ d = .string D ∧ Hid (UnSeq R o) ∧ Hid (D.data.toList ++ o = out) ∧ R.size ≤ 400 ∧ D.size ≤ 400 ∧ Hid (Below w.heap.size w wr)) (fun r _ _ => strLen r)
  case atStart => exact ⟨s, ⟨#[]⟩, out, rfl, rfl, HO, Lib.hid rfl, hs, by decide, Lib.hid (Below.refl _ _)⟩
  case round =>
    obtain ⟨R, D, o, rfl, rfl, hu, hd, hR, hD, hb⟩ := hrel
    have hlen : D.size + o.length ≤ 400 := by
      have := congrArg List.length hd.out
      rw [List.length_append, size_list] at this
      omega
    by_cases h0 : R.size = 0
    · have hE : Hid ((⟨out.toArray⟩ : ByteArray) = D) := Lib.hid (by
        have h1 := hu.out
        cases h1 with
        | nil h => rw [← hd.out, List.append_nil]
        | plain h _ _ => omega
        | esc h hs _ => have := hs.1; omega)
      have e1 := (empty_yes h0).1
      have e2 := (empty_yes h0).2
      clear h0
      go_wp2
      go_ret
      exact ⟨by rw [hE.out]; rfl, hb.out⟩
    · have hp : 0 < R.size := by omega
      have e1 := (empty_no hp).1
      have e2 := (empty_no hp).2
      clear h0
      have h1 := hu.out
      cases h1 with
      | nil h => omega
      | plain h hsame ho1 =>
        rename_i c o2
        have HC := Lib.hid hsame.2.2.2.2.2
        have HO1 := Lib.hid ho1
        have hcz : c.size ≤ 1 := hsame.2.1
        have q1 : (1 : Int) ≤ (R.size : Int) := by omega
        have hx1 : (R.extract 0 1).size ≤ 1 := by rw [ByteArray.size_extract]; omega
        have hD1 : (D ++ R.extract 0 1).size ≤ 400 := by rw [ByteArray.size_append]; simp only [List.length_cons] at hlen; omega
        have hR1 : (R.extract 1 R.size).size ≤ 400 := rest_size R 1 hR
        have hd1 : Hid ((D ++ R.extract 0 1).data.toList ++ o2 = out) := Lib.hid (by
          rw [← hd.out, ByteArray.data_append, Array.toList_append, List.append_assoc, extract_list, List.drop_zero]
          congr 1
          have hl2 : 0 < R.data.toList.length := by rw [size_list]; exact hp
          rw [show (1 - 0 : Nat) = 0 + 1 from rfl, List.take_succ_eq_append_getElem hl2]
          rfl)
        clear ho1 hsame
        go_wp2_with fail
        refine (HC.out _).mono ?_
        rintro e w2 ⟨rfl, hb2⟩
        have HB2 := Lib.hid (hb.out.trans (hb2.mono hb.out.size))
        clear hb2
        go_wp2
        go_roundw
        case rel => exact ⟨_, _, o2, rfl, rfl, HO1, hd1, hR1, hD1, HB2⟩
        case measure => show (R.extract 1 R.size).size < R.size; rw [ByteArray.size_extract]; omega
      | esc h hsame ho1 =>
        rename_i c n o2
        have HC := Lib.hid hsame.2.2.2.2.2
        have HO1 := Lib.hid ho1
        have hcz : c.size ≤ 1 := hsame.2.1
        have hn : n ≤ R.size := hsame.1
        have hn0 : (n : Int) ≠ 0 := by omega
        have q1 : (n : Int) ≤ (R.size : Int) := by omega
        have q2 : ((n : Int) == 0) = false := by simpa using hn0
        have hD1 : (D ++ c).size ≤ 400 := by rw [ByteArray.size_append]; rw [List.length_append, size_list] at hlen; omega
        have hR1 : (R.extract n R.size).size ≤ 400 := rest_size R n hR
        have hd1 : Hid ((D ++ c).data.toList ++ o2 = out) := Lib.hid (by rw [← hd.out, ByteArray.data_append, Array.toList_append, List.append_assoc])
        clear ho1 hsame hn0
        go_wp2_with fail
        refine (HC.out _).mono ?_
        rintro e w2 ⟨rfl, hb2⟩
        have HB2 := Lib.hid (hb.out.trans (hb2.mono hb.out.size))
        clear hb2
        go_wp2
        go_roundw
        case rel => exact ⟨_, _, o2, rfl, rfl, HO1, hd1, hR1, hD1, HB2⟩
        case measure => show (R.extract n R.size).size < R.size; rw [ByteArray.size_extract]; omega

/-- a builder lies on. -/
theorem builder_later {B b : Nat} {bs : List Value} {w w' : World} (h : Lib.IsBuilder 62 5 B b bs w) (hb : Below w.heap.size w w') : Lib.IsBuilder 62 5 B b bs w' := by
  have key : ∀ p, Lib.BuilderAt 62 5 B b p bs w → Lib.BuilderAt 62 5 B b p bs w' := by
    rintro p ⟨h1, v, h2, h3, h4⟩
    refine ⟨h1, v, (hb.block b (lt_of_block h2)).trans h2, ?_, h4⟩
    refine h3.kept (row := none) ⟨hb.os, hb.tape, hb.output, hb.size, fun k hk _ => hb.block k hk⟩ ?_
    cases v.ownBlock with
    | none => exact Or.inl rfl
    | some k => exact Or.inr (by simp)
  rcases h with h | h
  · exact Or.inl (key _ h)
  · exact Or.inr (key _ h)
theorem bytes_app (D : List UInt8) (t : ByteArray) : Lib.byteCells D ++ Lib.strCells t = Lib.byteCells (D ++ t.data.toList) := by simp [Lib.byteCells, Lib.strCells]
theorem ws_full (B b : Nat) (D : List UInt8) (t : ByteArray) (w : World) (h : Lib.IsBuilder 62 5 B b (Lib.byteCells D) w) (hlen : D.length ≤ 1000) (ht : t.size ≤ 1000) (hBw : B ≤ w.heap.size) :
    Calls Try.prog 63 #[.pointer (some ⟨b, 0, none⟩), .string t] w fun e w' => e = .returned (.tuple #[.int .i64 t.size, .nilIface]) ∧ Hid (Lib.IsBuilder 62 5 B b (Lib.byteCells (D ++ t.data.toList)) w') ∧ Hid (Below B w w') := by
  refine (writeString_any B b _ t w h (by rw [Lib.byteCells_length]; omega) hBw).mono ?_
  rintro e w' ⟨rfl, h1, h2⟩
  exact ⟨rfl, Or.inr (by rw [← bytes_app]; exact h1), h2⟩

set_option maxRecDepth 100000 in
set_option maxHeartbeats 1000000 in
theorem unescaped_any (s : ByteArray) (out : List UInt8) (w : World) (hs : s.size ≤ 400) (ho : UnSeq s out) (hl : out.length ≤ 400) :
    Calls Try.prog 35 #[.string s] w fun e w' => e = .returned (.string ⟨out.toArray⟩) ∧ Below w.heap.size w w' := by
  have HO := Lib.hid ho
  have hib := Lib.fresh_isBuilder 62 5 w
  have hb0 : Below w.heap.size w (w.alloc (.cells #[.pointer none, .slice none 0 0] 62)) := (Below.refl _ _).alloc (Nat.le_refl _) _
  have HIB := Lib.hid hib
  have HB0 := Lib.hid hb0
  clear ho hib hb0
  go_enter Try.func35, Try.ntmps35
  go_wp2
  go_loopw [0] (fun r wr => ∃ (R : ByteArray) (D o : List UInt8), r = .string R ∧ Hid (UnSeq R o) ∧ Hid (D ++ o = out) ∧ R.size ≤ 400 ∧ Hid (Lib.IsBuilder 62 5 w.heap.size w.heap.size (Lib.byteCells D) wr) ∧ Hid (Below w.heap.size w wr)) (fun r _ => strLen r)
  case atStart => exact ⟨s, [], out, rfl, HO, Lib.hid rfl, hs, HIB, HB0⟩
  case round =>
    obtain ⟨R, D, o, rfl, hu, hd, hR, hib, hb⟩ := hrel
    have hlen : D.length + o.length ≤ 400 := by
      have := congrArg List.length hd.out
      rw [List.length_append] at this
      omega
    rcases slash_is R with ⟨ei, hall⟩ | ⟨i, ei, hi, hx, hall⟩
    · have HI : Hid (∀ W : World, Calls Try.prog 54 #[.string R, .int .u8 92] W fun e w' => e = .returned (.int .i64 (-1)) ∧ W = w') := Lib.hid (fun W => (Try.strings_IndexByte R 92 W).mono fun e w' ⟨h1, h2⟩ => ⟨by rw [h1, ← ei]; rfl, h2.symm⟩)
      have hE : Hid (D ++ R.data.toList = out) := Lib.hid (by
        obtain ⟨o1, e1, h1⟩ := unseq_run hu.out R.size (Nat.le_refl _) hall
        rw [List.take_of_length_le (by rw [size_list]; exact Nat.le_refl _)] at e1
        have hz : (R.extract R.size R.size).size = 0 := by rw [ByteArray.size_extract]; omega
        cases h1 with
        | nil h => rw [← hd.out, e1, List.append_nil]
        | plain h _ _ => omega
        | esc h hs _ => have := hs.1; omega)
      clear ei hall
      go_wp2_with (go_at_call 54; refine (HI.out _).mono ?_; rintro e w' ⟨rfl, rfl⟩)
      refine (ws_full w.heap.size w.heap.size D R _ hib.out (by omega) (by omega) hb.out.size).mono ?_
      rintro e w2 ⟨rfl, I2, J2⟩
      have HB2 := Lib.hid (hb.out.trans J2.out)
      go_wp2_with fail
      refine (Try.Builder_String_any w.heap.size w.heap.size (D ++ R.data.toList) _ I2.out HB2.out.size).mono ?_
      rintro e w3 ⟨rfl, hb3⟩
      have HB3 := Lib.hid (HB2.out.trans hb3)
      clear hb3
      go_wp2
      go_ret
      exact ⟨by rw [← hE.out]; rfl, HB3.out⟩
    · have HI : Hid (∀ W : World, Calls Try.prog 54 #[.string R, .int .u8 92] W fun e w' => e = .returned (.int .i64 i) ∧ W = w') := Lib.hid (fun W => (Try.strings_IndexByte R 92 W).mono fun e w' ⟨h1, h2⟩ => ⟨by rw [h1, ← ei]; rfl, h2.symm⟩)
      obtain ⟨o1, e1, h1⟩ := unseq_run hu.out i (by omega) hall
      have hz : (R.extract i R.size).size = R.size - i := by rw [ByteArray.size_extract]; omega
      have hx0 : (numsB (R.extract i R.size)).getD 0 0 = 92 := by rw [numsB_extract (Nat.le_refl _) (by omega)]; exact hx
      have hcase : ∃ (c : ByteArray) (n : Nat) (o2 : List UInt8), 1 ≤ n ∧ UnSame (R.extract i R.size) c n ∧ UnSeq ((R.extract i R.size).extract n (R.extract i R.size).size) o2 ∧ o1 = c.data.toList ++ o2 := by
        generalize hr : R.extract i R.size = r at h1 hz hx0
        cases h1 with
        | nil h => omega
        | plain h hs _ => have := hs.2.2.2.1 h hx0; omega
        | esc h hs ho => exact ⟨_, _, _, h, hs, ho, rfl⟩
      obtain ⟨c, n, o2, hn1, hsame, ho2, e2⟩ := hcase
      have hn2 := hsame.1
      rw [hz] at hn2 ho2
      rw [extract_in (by omega) (by omega), show i + (R.size - i) = R.size by omega] at ho2
      have HC := Lib.hid hsame.2.2.2.2.1
      have hcz : c.size ≤ 1 := hsame.2.1
      have HO2 := Lib.hid ho2
      have hd1 : Hid (D ++ (R.extract 0 i).data.toList ++ c.data.toList ++ o2 = out) := Lib.hid (by
        rw [← hd.out, e1, e2, extract_list, List.drop_zero, Nat.sub_zero]
        simp [List.append_assoc])
      have q1 : (i : Int) ≤ (R.size : Int) := by omega
      have q2 : (i : Int) + n ≤ (R.size : Int) := by omega
      have q3 : ((i : Int) + n).toNat = i + n := by omega
      have q4 : i + n ≤ R.size := by omega
      have hR1 : (R.extract (i + n) R.size).size ≤ 400 := rest_size R (i + n) hR
      have hz0 : (R.extract 0 i).size ≤ 1000 := by rw [ByteArray.size_extract]; omega
      have hlz : (D ++ (R.extract 0 i).data.toList).length ≤ 1000 := by rw [List.length_append, size_list, ByteArray.size_extract]; omega
      clear ei hall e1 e2 h1 hz hx0 hsame ho2 hx hn2
      go_wp2_with (go_at_call 54; refine (HI.out _).mono ?_; rintro e w' ⟨rfl, rfl⟩)
      refine (HC.out _).mono ?_
      rintro e w2 ⟨rfl, hb2⟩
      have HB2 := Lib.hid (hb.out.trans (hb2.mono hb.out.size))
      have I1 : Hid (Lib.IsBuilder 62 5 w.heap.size w.heap.size (Lib.byteCells D) w2) := Lib.hid (builder_later hib.out hb2)
      clear hb2
      go_wp2_with fail
      refine (ws_full w.heap.size w.heap.size D (R.extract 0 i) _ I1.out (by omega) hz0 HB2.out.size).mono ?_
      rintro e w3 ⟨rfl, I3, J3⟩
      have HB3 := Lib.hid (HB2.out.trans J3.out)
      go_wp2_with fail
      refine (ws_full w.heap.size w.heap.size _ c _ I3.out hlz (by omega) HB3.out.size).mono ?_
      rintro e w4 ⟨rfl, I4, J4⟩
      have HB4 := Lib.hid (HB3.out.trans J4.out)
      go_wp2
      go_roundw
      case rel => exact ⟨_, _, o2, rfl, HO2, hd1, hR1, I4, HB4⟩
      case measure => show (R.extract (i + n) R.size).size < R.size; rw [ByteArray.size_extract]; omega
end Go.Proofs.Ytkohpijpipcajaa
