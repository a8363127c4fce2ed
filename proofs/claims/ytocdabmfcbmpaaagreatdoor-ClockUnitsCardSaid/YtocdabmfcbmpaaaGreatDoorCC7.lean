import Derived.Test.YtocdabmfcbmpaaaGreatDoorCC6
namespace Go.Proofs.YtocdabmfcbmpaaaGreatDoor
open Go.RowKit
set_option linter.unusedVariables false
set_option linter.unusedSimpArgs false

theorem partL {m : Nat} {w : World} {k : FuncId} {g : Int → Int → Int → Int → Int → Int → Int} (hg : PartAt k g) (hk : IsGo k) (hm : m < w.heap.size) :
    Calls Tryz.prog 70 #[Fv k #[]] w fun e w' => ∃ b, e = .returned (Fv 126 #[Pt b]) ∧ FnAt m w' (Fv 126 #[Pt b]) (partG g) ∧ Below w.heap.size w w' :=
  (part_any k #[] w).mono fun e w' ⟨he, hw⟩ => ⟨w.heap.size, he, part_at hg hk (by omega) (by rw [hw]; exact (cell_of_row _ _ _ _ _ _ (heap_alloc_new _ _)).trans rfl), by rw [hw]; exact (Below.refl _ _).alloc (Nat.le_refl _) _⟩
theorem numberL {m : Nat} {w : World} {k : FuncId} {cap : Array Value} {g : Int → Int} (wd : Nat) (hf : FnAt m w (Fv k cap) g) (hg : ∀ t : Int, -62135596800 ≤ t → t ≤ 253402300799 → -9223372036854775808 ≤ g t ∧ g t ≤ 9223372036854775807) (hwd : wd ≤ 10) (hm : m < w.heap.size) :
    Calls Tryz.prog 72 #[.int .i64 wd, Fv k cap] w fun e w' => ∃ v, e = .returned v ∧ Two v ∧ LetAt m w' v (fun t => padS (g t) wd) ∧ Below w.heap.size w w' := by
  refine (number_any' wd k cap w).mono fun e w' ⟨he, hw⟩ => ⟨_, he, ⟨_, _, _, _, rfl⟩, ?_, ?_⟩
  · have hb : Below w.heap.size w w' := by rw [hw]; exact (((Below.refl _ _).alloc (Nat.le_refl _) _).alloc (by simp) _).alloc (by simp; omega) _
    refine number_at (hf.keep (Below.keep hb)) hg hwd ?_ ?_ ⟨by omega, by omega⟩
    · have r0 : w'.heap[w.heap.size]? = some (Obj.cells #[.int .i64 wd] 3 (0, 0)) := by
        rw [hw, heap_alloc_old _ _ (by simp; omega), heap_alloc_old _ _ (by simp), heap_alloc_new]
      exact (cell_of_row _ _ 0 _ _ _ r0).trans rfl
    · have r0 : w'.heap[w.heap.size + 1]? = some (Obj.cells #[Fv k cap] 53 (0, 0)) := by
        rw [hw, heap_alloc_old _ _ (by simp)]
        have := heap_alloc_new (w.alloc (.cells #[.int .i64 wd] 3)) (.cells #[Fv k cap] 53)
        rwa [World.size_alloc] at this
      exact (cell_of_row _ _ 0 _ _ _ r0).trans rfl
  · rw [hw]; exact (((Below.refl _ _).alloc (Nat.le_refl _) _).alloc (by simp) _).alloc (by simp; omega) _
theorem numberL' {m : Nat} {w : World} {k : FuncId} {cap : Array Value} {g : Int → Int} (wi : Int) (wd : Nat) (hw : wi = wd) (hf : FnAt m w (Fv k cap) g) (hg : ∀ t : Int, -62135596800 ≤ t → t ≤ 253402300799 → -9223372036854775808 ≤ g t ∧ g t ≤ 9223372036854775807) (hwd : wd ≤ 10) (hm : m < w.heap.size) :
    Calls Tryz.prog 72 #[I wi, Fv k cap] w fun e w' => ∃ v, e = .returned v ∧ Two v ∧ LetAt m w' v (fun t => padS (g t) wd) ∧ Below w.heap.size w w' := by rw [hw]; exact numberL wd hf hg hwd hm
theorem numberS (w : World) (k : FuncId) (wd : Int) : Calls Tryz.prog 72 #[I wd, Fv k #[]] w fun e w' => ∃ v, e = .returned v ∧ Two v ∧ Below w.heap.size w w' :=
  (number_any' wd k #[] w).mono fun e w' ⟨he, hw⟩ => ⟨_, he, ⟨_, _, _, _, rfl⟩, by rw [hw]; exact (((Below.refl _ _).alloc (Nat.le_refl _) _).alloc (by simp) _).alloc (by simp; omega) _⟩
theorem namedS (w : World) (ao : Option Addr) (n c : Nat) (k : FuncId) (cap : Array Value) : Calls Tryz.prog 84 #[.slice ao n c, Fv k cap] w fun e w' => ∃ v, e = .returned v ∧ Two v ∧ Below w.heap.size w w' :=
  (named_any ao n c k cap w).mono fun e w' ⟨he, hw⟩ => ⟨_, he, ⟨_, _, _, _, rfl⟩, by rw [hw]; exact (((Below.refl _ _).alloc (Nat.le_refl _) _).alloc (by simp) _).alloc (by simp; omega) _⟩
theorem monthS (w : World) : Calls Tryz.prog 86 #[] w fun e w' => e = .returned (.slice (some ⟨w.heap.size, 0, none⟩) 12 12) ∧ w'.heap[w.heap.size]? = some (.cells (strCells monthL) 9 (0, 0)) ∧ Below w.heap.size w w' ∧ w.heap.size < w'.heap.size :=
  (monthNames_any w).mono fun e w' ⟨he, hw⟩ => ⟨he, by rw [hw]; exact heap_alloc_new _ _, by rw [hw]; exact (Below.refl _ _).alloc (Nat.le_refl _) _, by rw [hw]; simp⟩
theorem dayS (w : World) : Calls Tryz.prog 88 #[] w fun e w' => e = .returned (.slice (some ⟨w.heap.size, 0, none⟩) 7 7) ∧ w'.heap[w.heap.size]? = some (.cells (strCells dayL) 9 (0, 0)) ∧ Below w.heap.size w w' ∧ w.heap.size < w'.heap.size :=
  (dayNames_any w).mono fun e w' ⟨he, hw⟩ => ⟨he, by rw [hw]; exact heap_alloc_new _ _, by rw [hw]; exact (Below.refl _ _).alloc (Nat.le_refl _) _, by rw [hw]; simp⟩
theorem all3 {l : List ByteArray} (h : l.all (fun s => decide (3 ≤ s.size)) = true) : ∀ k (hk : k < l.length), 3 ≤ (l[k]).size := fun k hk => of_decide_eq_true (List.all_eq_true.1 h _ (List.getElem_mem hk))
theorem short12 (b : Nat) (w : World) (hw : w.heap[b]? = some (.cells (strCells monthL) 9 (0, 0))) : Calls Tryz.prog 87 #[.slice (some ⟨b, 0, none⟩) 12 12] w fun e w' => e = .returned (.slice (some ⟨b, 0, none⟩) 12 12) ∧ w'.heap[b]? = some (.cells (strCells (monthL.map cut3)) 9 (0, 0)) ∧ Below b w w' ∧ w'.heap.size = w.heap.size :=
  short_any b monthL (all3 (by decide)) (by decide) w hw
theorem short7 (b : Nat) (w : World) (hw : w.heap[b]? = some (.cells (strCells dayL) 9 (0, 0))) : Calls Tryz.prog 87 #[.slice (some ⟨b, 0, none⟩) 7 7] w fun e w' => e = .returned (.slice (some ⟨b, 0, none⟩) 7 7) ∧ w'.heap[b]? = some (.cells (strCells (dayL.map cut3)) 9 (0, 0)) ∧ Below b w w' ∧ w'.heap.size = w.heap.size :=
  short_any b dayL (all3 (by decide)) (by decide) w hw

/-- how far the letters are. -/
structure LS (w : World) (m fb : Nat) (W : World) (L : List (Nat × Option (Int → ByteArray))) : Prop where
  map : MapL W m L
  bel : Below w.heap.size w W
  mon : FnAt m W (Fv 126 #[Pt fb]) (partG fun y m d h mi s => m)
  base : w.heap.size ≤ m
theorem LS.lt {w : World} {m fb : Nat} {W : World} {L : List (Nat × Option (Int → ByteArray))} (h : LS w m fb W L) : m < W.heap.size := by
  obtain ⟨es, clk, h1, _⟩ := h.map
  exact (Array.getElem?_eq_some_iff.1 h1).1
theorem LS.after {w : World} {m fb : Nat} {W W' : World} {L : List (Nat × Option (Int → ByteArray))} (h : LS w m fb W L) (hb : Below W.heap.size W W') : LS w m fb W' L :=
  ⟨h.map.after hb, h.bel.trans (hb.mono h.bel.size), h.mon.keep (Below.keep hb), h.base⟩
theorem LS.alloc {w : World} {m fb : Nat} {W : World} {L : List (Nat × Option (Int → ByteArray))} (h : LS w m fb W L) (o : Obj) : LS w m fb (W.alloc o) L := h.after ((Below.refl _ _).alloc (Nat.le_refl _) _)
theorem LS.put {w : World} {m fb : Nat} {W W' : World} {L L' : List (Nat × Option (Int → ByteArray))} (h : LS w m fb W L) (hm : MapL W' m L') (hk : Keep m W W') (hb : Below m W W') : LS w m fb W' L' :=
  ⟨hm, h.bel.trans (hb.mono h.base), h.mon.keep hk, h.base⟩
/-- the names' row, and that it lies behind the map. -/
theorem LS.row {w : World} {m fb : Nat} {W V W' : World} {L : List (Nat × Option (Int → ByteArray))} (h : LS w m fb W L) (h1 : Below W.heap.size W V) (h2 : Below W.heap.size V W') : LS w m fb W' L := h.after (h1.trans h2)
theorem pos_bd {t a b : Int} (h : 0 < b) (hb : b ≤ 1000000) : 0 ≤ t % b ∧ t % b ≤ 1000000 := ⟨Int.emod_nonneg _ (by omega), by have := Int.emod_lt_of_pos t h; omega⟩
theorem parts_bd {t : Int} (h0 : -62135596800 ≤ t) (h1 : t ≤ 253402300799) : (1 ≤ dYI (t / 86400) ∧ dYI (t / 86400) ≤ 9999) ∧ (1 ≤ dMI (t / 86400) ∧ dMI (t / 86400) ≤ 12) ∧ (1 ≤ dDI (t / 86400) ∧ dDI (t / 86400) ≤ 31) ∧ (0 ≤ t % 86400 / 3600 ∧ t % 86400 / 3600 ≤ 23) ∧ (0 ≤ t % 86400 / 60 % 60 ∧ t % 86400 / 60 % 60 ≤ 59) ∧ (0 ≤ t % 86400 % 60 ∧ t % 86400 % 60 ≤ 59) := by
  have hD := dt_date (t / 86400)
  have := ml_bd (dYI (t / 86400)) (dMI (t / 86400))
  obtain ⟨a, b, c, d⟩ := hD
  exact ⟨year_bd h0 h1, ⟨a, b⟩, ⟨c, by omega⟩, by omega, by omega, by omega⟩
def g69 (t : Int) : Int := partG (fun y m d h mi s => y) t
theorem g69_bd (t : Int) (h0 : -62135596800 ≤ t) (h1 : t ≤ 253402300799) : -9223372036854775808 ≤ partG (fun y m d h mi s => y) t ∧ partG (fun y m d h mi s => y) t ≤ 9223372036854775807 := by
  have := parts_bd h0 h1
  simp only [partG]
  omega
def g70 (t : Int) : Int := partG (fun y m d h mi s => y % 100) t
theorem g70_bd (t : Int) (h0 : -62135596800 ≤ t) (h1 : t ≤ 253402300799) : -9223372036854775808 ≤ partG (fun y m d h mi s => y % 100) t ∧ partG (fun y m d h mi s => y % 100) t ≤ 9223372036854775807 := by
  have := parts_bd h0 h1
  simp only [partG]
  omega
def g67 (t : Int) : Int := partG (fun y m d h mi s => m) t
theorem g67_bd (t : Int) (h0 : -62135596800 ≤ t) (h1 : t ≤ 253402300799) : -9223372036854775808 ≤ partG (fun y m d h mi s => m) t ∧ partG (fun y m d h mi s => m) t ≤ 9223372036854775807 := by
  have := parts_bd h0 h1
  simp only [partG]
  omega
def g71 (t : Int) : Int := partG (fun y m d h mi s => d) t
theorem g71_bd (t : Int) (h0 : -62135596800 ≤ t) (h1 : t ≤ 253402300799) : -9223372036854775808 ≤ partG (fun y m d h mi s => d) t ∧ partG (fun y m d h mi s => d) t ≤ 9223372036854775807 := by
  have := parts_bd h0 h1
  simp only [partG]
  omega
def g72 (t : Int) : Int := partG (fun y m d h mi s => h) t
theorem g72_bd (t : Int) (h0 : -62135596800 ≤ t) (h1 : t ≤ 253402300799) : -9223372036854775808 ≤ partG (fun y m d h mi s => h) t ∧ partG (fun y m d h mi s => h) t ≤ 9223372036854775807 := by
  have := parts_bd h0 h1
  simp only [partG]
  omega
def g73 (t : Int) : Int := partG (fun y m d h mi s => mi) t
theorem g73_bd (t : Int) (h0 : -62135596800 ≤ t) (h1 : t ≤ 253402300799) : -9223372036854775808 ≤ partG (fun y m d h mi s => mi) t ∧ partG (fun y m d h mi s => mi) t ≤ 9223372036854775807 := by
  have := parts_bd h0 h1
  simp only [partG]
  omega
def g74 (t : Int) : Int := partG (fun y m d h mi s => s) t
theorem g74_bd (t : Int) (h0 : -62135596800 ≤ t) (h1 : t ≤ 253402300799) : -9223372036854775808 ≤ partG (fun y m d h mi s => s) t ∧ partG (fun y m d h mi s => s) t ≤ 9223372036854775807 := by
  have := parts_bd h0 h1
  simp only [partG]
  omega
def g75 (t : Int) : Int := partG (fun y m d h mi s => (h + 11) % 12 + 1) t
theorem g75_bd (t : Int) (h0 : -62135596800 ≤ t) (h1 : t ≤ 253402300799) : -9223372036854775808 ≤ partG (fun y m d h mi s => (h + 11) % 12 + 1) t ∧ partG (fun y m d h mi s => (h + 11) % 12 + 1) t ≤ 9223372036854775807 := by
  have := parts_bd h0 h1
  simp only [partG]
  omega
/-- the letters, in the order in which they are laid. -/
def letL : List (Nat × Option (Int → ByteArray)) := [(89, some fun t => padS (g69 t) 4), (121, some fun t => padS (g70 t) 2), (109, some fun t => padS (g67 t) 2), (100, some fun t => padS (g71 t) 2), (72, some fun t => padS (g72 t) 2), (77, some fun t => padS (g73 t) 2), (83, some fun t => padS (g74 t) 2), (73, some fun t => padS (g75 t) 2), (106, none), (117, none), (71, none), (86, none), (112, none), (66, none), (98, none), (65, none), (97, none), (101, none), (115, none)]
end Go.Proofs.YtocdabmfcbmpaaaGreatDoor
