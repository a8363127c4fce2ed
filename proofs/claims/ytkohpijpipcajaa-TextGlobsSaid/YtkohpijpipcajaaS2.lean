import Derived.Test.YtkohpijpipcajaaS1
import Derived.Test.YtkohpijpipcajaaQ1
namespace Go.Proofs.Ytkohpijpipcajaa
open Go.RowKit
set_option linter.unusedVariables false
set_option linter.unusedSimpArgs false

/-- what the first k digits are worth. -/
def vT (b : Int) (l : List Int) (k : Nat) : Int := (l.take k).foldl (fun v c => v * b + dv b c) 0
theorem vT_zero (b : Int) (l : List Int) : vT b l 0 = 0 := rfl
theorem vT_succ (b : Int) (l : List Int) (k : Nat) (h : k < l.length) : vT b l (k + 1) = vT b l k * b + dv b (l.getD k 0) := by
  unfold vT
  rw [List.take_succ_eq_append_getElem h, List.foldl_append]
  simp [List.getD, List.getElem?_eq_getElem h]
/-- k digits of at most m. -/
def IsNum (b : Int) (m : Nat) (l : List Int) (k : Nat) (v : Int) : Prop :=
  k ≤ l.length ∧ k ≤ m ∧ (∀ j, j < k → 0 ≤ dv b (l.getD j 0)) ∧ (k = l.length ∨ k = m ∨ dv b (l.getD k 0) < 0) ∧ v = vT b l k ∧ 0 ≤ v ∧ v ≤ 4095
theorem isNum_one {b : Int} {m : Nat} {l : List Int} {k k' : Nat} {v v' : Int} (h : IsNum b m l k v) (g : IsNum b m l k' v') : k = k' ∧ v = v' := by
  obtain ⟨h1, h2, h3, h4, h5, _⟩ := h
  obtain ⟨g1, g2, g3, g4, g5, _⟩ := g
  have e : k = k' := by
    rcases Nat.lt_trichotomy k k' with c | c | c
    · have := g3 k c; omega
    · exact c
    · have := h3 k' c; omega
  subst e
  exact ⟨rfl, h5.trans g5.symm⟩
/-- how great a number of k digits is. -/
def Small (b k v : Int) : Prop := 0 ≤ v ∧ ((k = 0 ∧ v = 0) ∨ (k = 1 ∧ v < b) ∨ (k = 2 ∧ v < b * b) ∨ (k = 3 ∧ v < b * b * b))
def NumPost (b : Int) (m : Nat) (l : List Int) (w : World) (e : Ending) (w' : World) : Prop := ∃ (k : Nat) (v : Int), IsNum b m l k v ∧ e = .returned (.tuple #[.int .i64 k, .int .i64 v]) ∧ w = w'
theorem dv_lt {b c : Int} (h : 0 ≤ b) : dv b c < b ∨ dv b c = -1 := by
  simp only [dv]
  (repeat' split) <;> omega
theorem dv_eq {b c : Int} (hb : 0 ≤ b) (h : b ≤ 16) : (dv 16 c < 0 ∨ b ≤ dv 16 c → dv b c < 0) ∧ (0 ≤ dv 16 c ∧ dv 16 c < b → dv b c = dv 16 c) := by
  simp only [dv]
  (repeat' split) <;> constructor <;> intro _ <;> omega

set_option maxRecDepth 100000 in
set_option maxHeartbeats 1000000 in
theorem number_16 (s : ByteArray) (w : World) (hs : s.size ≤ 400) : Calls Try.prog 55 #[.string s, .int .i64 16, .int .i64 2] w (NumPost 16 2 (numsB s) w) := by
  have HN := Lib.hid (numsB_length s)
  go_enter Try.func55, Try.ntmps55
  go_wp2
  go_loop [6, 7] (fun i n => ∃ (k : Nat) (v : Int), i = .int .i64 k ∧ n = .int .i64 v ∧ k ≤ s.size ∧ k ≤ 2 ∧ Hid (∀ j, j < k → 0 ≤ dv 16 ((numsB s).getD j 0)) ∧ Hid (v = vT 16 (numsB s) k) ∧ Hid (Small 16 k v)) (fun i _ => s.size - (intOf i).toNat)
  case atStart => exact ⟨0, 0, rfl, rfl, by omega, by omega, Lib.hid fun j hj => by omega, Lib.hid rfl, Lib.hid ⟨by omega, Or.inl ⟨rfl, rfl⟩⟩⟩
  case round =>
    obtain ⟨k, v, rfl, rfl, hk, hm, hall, hv, hsm⟩ := hrel
    have hv0 : 0 ≤ v ∧ v ≤ 4095 := by
      have h := hsm.out
      unfold Small at h
      omega
    by_cases hlt : k < s.size
    · by_cases hkm : k < 2
      · have hx := byte_num s hlt
        have hb := numsB_at s k
        have hxe : Hid ((numsB s).getD k 0 = (numsB s).getD k 0) := Lib.hid rfl
        obtain ⟨x, hxx⟩ : ∃ x, (numsB s).getD k 0 = x := ⟨_, rfl⟩
        rw [hxx] at hx hb
        have HX := Lib.hid hxx
        clear hxx hxe
        obtain ⟨d, hd⟩ : ∃ d, dv 16 x = d := ⟨_, rfl⟩
        have hdl := dv_lt (b := 16) (c := x) (by omega)
        have HDE : Hid ((d < 0 ∨ 16 ≤ d → dv 16 x < 0) ∧ (0 ≤ d ∧ d < 16 → dv 16 x = d)) := Lib.hid (by rw [← hd]; exact dv_eq (by omega) (by omega))
        rw [hd] at hdl
        have HD := Lib.hid hd
        clear hd
        have hge : -1 ≤ d := by
          have : -1 ≤ dv 16 x := by
            simp only [dv]
            (repeat' split) <;> omega
          rw [HD.out] at this
          exact this
        by_cases hdig : 0 ≤ d ∧ d < 16
        · obtain ⟨hd0, hd1⟩ := hdig
          have hnv : Hid (v * 16 + d = vT 16 (numsB s) (k + 1)) := Lib.hid (by rw [vT_succ _ _ _ (by rw [HN.out]; exact hlt), ← hv.out, HX.out, HDE.out.2 ⟨hd0, hd1⟩])
          have hns : Hid (Small 16 ((k + 1 : Nat) : Int) (v * 16 + d)) := Lib.hid (by
            have h := hsm.out
            unfold Small at h ⊢
            omega)
          have hnd : Hid (0 ≤ dv 16 x) := Lib.hid (by rw [HDE.out.2 ⟨hd0, hd1⟩]; exact hd0)
          go_wp2_with (go_at_call 85; refine (hexValue_any _ _ hb.1 hb.2).mono ?_; rintro e w' ⟨rfl, rfl⟩; rw [HD.out])
          go_round
          case rel => exact ⟨k + 1, _, by go_num, rfl, by omega, by omega, Lib.hid fun j hj => by
            by_cases e : j = k
            · rw [e, HX.out]; exact hnd.out
            · exact hall.out j (by omega), hnv, hns⟩
          case measure => simp [intOf]; omega
        · have hbad : Hid (dv 16 x < 0) := Lib.hid (HDE.out.1 (by omega))
          have hfin : Hid (IsNum 16 2 (numsB s) k v) := Lib.hid ⟨by rw [HN.out]; exact hk, hm, hall.out, Or.inr (Or.inr (by rw [HX.out]; exact hbad.out)), hv.out, hv0.1, hv0.2⟩
          by_cases hd0 : d < 0
          · clear hdig
            go_wp2_with (go_at_call 85; refine (hexValue_any _ _ hb.1 hb.2).mono ?_; rintro e w' ⟨rfl, rfl⟩; rw [HD.out])
            go_ret2
            exact ⟨k, v, hfin.out, rfl, rfl⟩
          · have hd1 : 16 ≤ d := by omega
            have hd2 : 0 ≤ d := by omega
            clear hdig hd0
            exact absurd hd1 (by omega)
      · have hfin : Hid (IsNum 16 2 (numsB s) k v) := Lib.hid ⟨by rw [HN.out]; exact hk, hm, hall.out, Or.inr (Or.inl (by omega)), hv.out, hv0.1, hv0.2⟩
        go_wp2
        go_ret2
        exact ⟨k, v, hfin.out, rfl, rfl⟩
    · have hfin : Hid (IsNum 16 2 (numsB s) k v) := Lib.hid ⟨by rw [HN.out]; exact hk, hm, hall.out, Or.inl (by rw [HN.out]; omega), hv.out, hv0.1, hv0.2⟩
      go_wp2
      go_ret2
      exact ⟨k, v, hfin.out, rfl, rfl⟩

set_option maxRecDepth 100000 in
set_option maxHeartbeats 1000000 in
theorem number_8 (s : ByteArray) (w : World) (hs : s.size ≤ 400) : Calls Try.prog 55 #[.string s, .int .i64 8, .int .i64 3] w (NumPost 8 3 (numsB s) w) := by
  have HN := Lib.hid (numsB_length s)
  go_enter Try.func55, Try.ntmps55
  go_wp2
  go_loop [6, 7] (fun i n => ∃ (k : Nat) (v : Int), i = .int .i64 k ∧ n = .int .i64 v ∧ k ≤ s.size ∧ k ≤ 3 ∧ Hid (∀ j, j < k → 0 ≤ dv 8 ((numsB s).getD j 0)) ∧ Hid (v = vT 8 (numsB s) k) ∧ Hid (Small 8 k v)) (fun i _ => s.size - (intOf i).toNat)
  case atStart => exact ⟨0, 0, rfl, rfl, by omega, by omega, Lib.hid fun j hj => by omega, Lib.hid rfl, Lib.hid ⟨by omega, Or.inl ⟨rfl, rfl⟩⟩⟩
  case round =>
    obtain ⟨k, v, rfl, rfl, hk, hm, hall, hv, hsm⟩ := hrel
    have hv0 : 0 ≤ v ∧ v ≤ 4095 := by
      have h := hsm.out
      unfold Small at h
      omega
    by_cases hlt : k < s.size
    · by_cases hkm : k < 3
      · have hx := byte_num s hlt
        have hb := numsB_at s k
        have hxe : Hid ((numsB s).getD k 0 = (numsB s).getD k 0) := Lib.hid rfl
        obtain ⟨x, hxx⟩ : ∃ x, (numsB s).getD k 0 = x := ⟨_, rfl⟩
        rw [hxx] at hx hb
        have HX := Lib.hid hxx
        clear hxx hxe
        obtain ⟨d, hd⟩ : ∃ d, dv 16 x = d := ⟨_, rfl⟩
        have hdl := dv_lt (b := 16) (c := x) (by omega)
        have HDE : Hid ((d < 0 ∨ 8 ≤ d → dv 8 x < 0) ∧ (0 ≤ d ∧ d < 8 → dv 8 x = d)) := Lib.hid (by rw [← hd]; exact dv_eq (by omega) (by omega))
        rw [hd] at hdl
        have HD := Lib.hid hd
        clear hd
        have hge : -1 ≤ d := by
          have : -1 ≤ dv 16 x := by
            simp only [dv]
            (repeat' split) <;> omega
          rw [HD.out] at this
          exact this
        by_cases hdig : 0 ≤ d ∧ d < 8
        · obtain ⟨hd0, hd1⟩ := hdig
          have hnv : Hid (v * 8 + d = vT 8 (numsB s) (k + 1)) := Lib.hid (by rw [vT_succ _ _ _ (by rw [HN.out]; exact hlt), ← hv.out, HX.out, HDE.out.2 ⟨hd0, hd1⟩])
          have hns : Hid (Small 8 ((k + 1 : Nat) : Int) (v * 8 + d)) := Lib.hid (by
            have h := hsm.out
            unfold Small at h ⊢
            omega)
          have hnd : Hid (0 ≤ dv 8 x) := Lib.hid (by rw [HDE.out.2 ⟨hd0, hd1⟩]; exact hd0)
          go_wp2_with (go_at_call 85; refine (hexValue_any _ _ hb.1 hb.2).mono ?_; rintro e w' ⟨rfl, rfl⟩; rw [HD.out])
          go_round
          case rel => exact ⟨k + 1, _, by go_num, rfl, by omega, by omega, Lib.hid fun j hj => by
            by_cases e : j = k
            · rw [e, HX.out]; exact hnd.out
            · exact hall.out j (by omega), hnv, hns⟩
          case measure => simp [intOf]; omega
        · have hbad : Hid (dv 8 x < 0) := Lib.hid (HDE.out.1 (by omega))
          have hfin : Hid (IsNum 8 3 (numsB s) k v) := Lib.hid ⟨by rw [HN.out]; exact hk, hm, hall.out, Or.inr (Or.inr (by rw [HX.out]; exact hbad.out)), hv.out, hv0.1, hv0.2⟩
          by_cases hd0 : d < 0
          · clear hdig
            go_wp2_with (go_at_call 85; refine (hexValue_any _ _ hb.1 hb.2).mono ?_; rintro e w' ⟨rfl, rfl⟩; rw [HD.out])
            go_ret2
            exact ⟨k, v, hfin.out, rfl, rfl⟩
          · have hd1 : 8 ≤ d := by omega
            have hd2 : 0 ≤ d := by omega
            clear hdig hd0
            go_wp2_with (go_at_call 85; refine (hexValue_any _ _ hb.1 hb.2).mono ?_; rintro e w' ⟨rfl, rfl⟩; rw [HD.out])
            go_ret2
            exact ⟨k, v, hfin.out, rfl, rfl⟩
      · have hfin : Hid (IsNum 8 3 (numsB s) k v) := Lib.hid ⟨by rw [HN.out]; exact hk, hm, hall.out, Or.inr (Or.inl (by omega)), hv.out, hv0.1, hv0.2⟩
        go_wp2
        go_ret2
        exact ⟨k, v, hfin.out, rfl, rfl⟩
    · have hfin : Hid (IsNum 8 3 (numsB s) k v) := Lib.hid ⟨by rw [HN.out]; exact hk, hm, hall.out, Or.inl (by rw [HN.out]; omega), hv.out, hv0.1, hv0.2⟩
      go_wp2
      go_ret2
      exact ⟨k, v, hfin.out, rfl, rfl⟩
end Go.Proofs.Ytkohpijpipcajaa
