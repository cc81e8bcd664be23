/-
  Chapter 12 as the program has it: a set kept rising.
  Made from the template SetI.
-/
import Derived.Test.YthgjnnhmcihinaaGreatIntIns
import Derived.Test.YthgjnnhmcihinaaGreatM5
namespace Go.Proofs.YthgjnnhmcihinaaGreat.hp
open Go.RowKit rows heads words walks
set_option maxRecDepth 100000
set_option linter.unusedVariables false
set_option linter.unusedSimpArgs false

theorem cmpIsNaN_any (x : Int) (w : World) : Calls Tryz.prog 160 #[.int .i64 x] w fun e w' => e = .returned (.bool false) ∧ w' = w := by
  go_enter Tryz.func160, Tryz.ntmps160
  go_wp2
  go_ret
  exact ⟨by simp, rfl⟩
theorem slIsNaN_any (x : Int) (w : World) : Calls Tryz.prog 149 #[.int .i64 x] w fun e w' => e = .returned (.bool false) ∧ w' = w := by
  go_enter Tryz.func149, Tryz.ntmps149
  go_wp2
  go_ret
  exact ⟨by simp, rfl⟩
set_option maxHeartbeats 1000000 in
theorem less_any (x y : Int) (w : World) : Calls Tryz.prog 148 #[.int .i64 x, .int .i64 y] w fun e w' => e = .returned (.bool (decide (x < y))) ∧ w' = w := by
  have N1 := cmpIsNaN_any x w
  go_enter Tryz.func148, Tryz.ntmps148
  go_wp2_with (go_at_call 160; refine N1.mono ?_; clear N1; rintro e w3 ⟨rfl, hw3⟩; rw [hw3]; clear hw3 w3)
  go_ret
  exact ⟨rfl, rfl⟩
/-- Where a search ends. -/
def EndsI (xs : List Int) (x : Int) (i : Nat) : Prop := i ≤ xs.length ∧ (∀ t, t < i → xs.getD t 0 < x) ∧ ∀ t, i ≤ t → t < xs.length → x ≤ xs.getD t 0
theorem rising_at {xs : List Int} (h : Rising xs) {i j : Nat} (hij : i < j) (hj : j < xs.length) : xs.getD i 0 < xs.getD j 0 := by
  have hP := List.pairwise_iff_getElem.1 h
  have := hP i j (by omega) hj hij
  rw [List.getD_eq_getElem?_getD, List.getElem?_eq_getElem (by omega), List.getD_eq_getElem?_getD, List.getElem?_eq_getElem hj]
  exact this
set_option maxHeartbeats 4000000 in
theorem binSearchI_any {w : World} {v : Value} {xs : List Int} (h : IntsAt w v xs) (hr : Rising xs) (hl : xs.length ≤ 1048576) (x : Int) :
    Calls Tryz.prog 118 #[v, .int .i64 x] w fun e w' => ∃ i : Nat, EndsI xs x i ∧ e = .returned (.tuple #[.int .i64 i, .bool (decide (i < xs.length) && decide (xs.getD i 0 = x))]) ∧ w' = w := by
  obtain ⟨a, cap, rfl, hlc, hcm, _, hc⟩ := h
  have HC : Hid _ := hc
  have HR : Hid (∀ i j, i < j → j < xs.length → xs.getD i 0 < xs.getD j 0) := fun i j h1 h2 => rising_at hr h1 h2
  clear hc hr
  go_enter Tryz.func118, Tryz.ntmps118
  go_wp2_with fail
  go_loopw [7, 8] (fun p q wr => ∃ lo hi : Nat, p = .int .i64 lo ∧ q = .int .i64 hi ∧ lo ≤ hi ∧ hi ≤ xs.length ∧ (∀ t, t < lo → xs.getD t 0 < x) ∧ (∀ t, hi ≤ t → t < xs.length → x ≤ xs.getD t 0) ∧ wr = w) (fun p q _ => (intOf q).toNat - (intOf p).toNat)
  case atStart => exact ⟨0, xs.length, rfl, rfl, Nat.zero_le _, Nat.le_refl _, fun t ht => by omega, fun t h1 h2 => by omega, rfl⟩
  case round =>
    obtain ⟨lo, hi, rfl, rfl, hlh, hhn, hlo, hhi, hB⟩ := hrel
    subst hB
    have HLO : Hid _ := hlo
    have HHI : Hid _ := hhi
    clear hlo hhi
    by_cases hlt : lo < hi
    · have hm1 : lo ≤ (lo + hi) / 2 ∧ (lo + hi) / 2 < hi := by omega
      have ediv : ((lo : Int) + (hi : Int)).fdiv (2 ^ min (Int.toNat 1) IntKind.u64.bits) = ((lo : Int) + (hi : Int)) / 2 := by
        rw [show (2 : Int) ^ min (Int.toNat 1) IntKind.u64.bits = 2 by decide, Int.fdiv_eq_ediv_of_nonneg _ (by decide)]
      obtain ⟨b, off, rfl, hb, hcc⟩ := HC.out (by omega)
      have c0 := hcc ((lo + hi) / 2) (by omega)
      have HUP : Hid (xs.getD ((lo + hi) / 2) 0 < x → ∀ t, t < ((lo + hi) / 2) + 1 → xs.getD t 0 < x) := fun e t ht => by
        by_cases e' : t = ((lo + hi) / 2)
        · rw [e']; exact e
        · have := HR.out t ((lo + hi) / 2) (by omega) (by omega)
          omega
      have HDN : Hid (¬ xs.getD ((lo + hi) / 2) 0 < x → ∀ t, ((lo + hi) / 2) ≤ t → t < xs.length → x ≤ xs.getD t 0) := fun e t h1 h2 => by
        by_cases e' : t = ((lo + hi) / 2)
        · rw [e']; omega
        · have := HR.out ((lo + hi) / 2) t (by omega) h2
          omega
      clear hcc HC HR
      generalize xs.getD ((lo + hi) / 2) 0 = y at *
      have A := less_any y x wr
      by_cases hx : y < x
      · have HUP2 : Hid _ := HUP.out hx
        rw [decide_eq_true hx] at A
        clear HUP HDN HLO hx
        go_wp2_with (go_at_call 148; refine A.mono ?_; clear A; rintro e w3 ⟨rfl, hw3⟩; rw [hw3]; clear hw3 w3)
        exact ⟨⟨((lo + hi) / 2) + 1, hi, by go_num, rfl, by omega, hhn, HUP2, HHI, trivial⟩, by simp [intOf]; omega⟩
      · have HDN2 : Hid _ := HDN.out hx
        rw [decide_eq_false hx] at A
        clear HUP HDN HHI hx
        go_wp2_with (go_at_call 148; refine A.mono ?_; clear A; rintro e w3 ⟨rfl, hw3⟩; rw [hw3]; clear hw3 w3)
        exact ⟨⟨lo, ((lo + hi) / 2), rfl, by go_num, by omega, by omega, HLO, HDN2, trivial⟩, by simp [intOf]; omega⟩
    · have e : hi = lo := by omega
      subst e
      have HE : Hid (EndsI xs x hi) := ⟨hhn, HLO.out, HHI.out⟩
      clear HLO HHI HR
      by_cases hn : hi < xs.length
      · obtain ⟨b, off, rfl, hb, hcc⟩ := HC.out (by omega)
        have c0 := hcc hi (by omega)
        have N1 := slIsNaN_any (xs.getD hi 0) wr
        have hn' : (hi : Int) < (xs.length : Int) := by omega
        clear hcc HC
        obtain ⟨y, hy⟩ : ∃ y, xs.getD hi 0 = y := ⟨_, rfl⟩
        rw [hy] at c0 N1
        have HY : Hid _ := hy
        clear hy
        by_cases hyx : y = x
        · subst hyx
          go_wp2_with (go_at_call 149; refine N1.mono ?_; clear N1; rintro e w3 ⟨rfl, hw3⟩; rw [hw3]; clear hw3 w3)
          go_ret2
          exact ⟨hi, HE.out, by rw [HY.out]; simp [hn], rfl⟩
        · have hyx' : (y == x) = false := by simp [hyx]
          go_wp2_with (go_at_call 149; refine N1.mono ?_; clear N1; rintro e w3 ⟨rfl, hw3⟩; rw [hw3]; clear hw3 w3)
          go_ret2
          exact ⟨hi, HE.out, by rw [HY.out]; simp [hyx], rfl⟩
      · have hn' : ¬ (hi : Int) < (xs.length : Int) := by omega
        clear HC
        go_wp2_with fail
        go_ret2
        exact ⟨hi, HE.out, by simp [hn], rfl⟩

/-- A set in its block. -/
abbrev stb (v : Value) : Obj := .cells #[v] 117
theorem stb_cells {W : World} {b : Nat} {v : Value} (h : W.heap[b]? = some (stb v)) : W.cell? ⟨b, 0, none⟩ = some v ∧ W.frozen? ⟨b, 0, none⟩ = false := by
  constructor <;> simp [World.cell?, World.frozen?, h]
theorem stb_set {W : World} {b : Nat} {v : Value} (h : W.heap[b]? = some (stb v)) (u : Value) : (W.setCell ⟨b, 0, none⟩ u).heap[b]? = some (stb u) :=
  (cells_setCell h 0 u).trans (by simp)
theorem filter_not (x : Int) : ∀ {xs : List Int}, x ∉ xs → xs.filter (fun q => !(q == x)) = xs := by
  intro xs h
  rw [List.filter_eq_self]
  intro q hq
  have : q ≠ x := fun e => h (e ▸ hq)
  simp [this]
theorem ends_not {xs : List Int} {x : Int} {i : Nat} (hr : Rising xs) (h : EndsI xs x i) (hn : (decide (i < xs.length) && decide (xs.getD i 0 = x)) = false) : x ∉ xs := by
  intro hx
  obtain ⟨m, hm, e⟩ := List.getElem_of_mem hx
  have e' : xs.getD m 0 = x := by rw [List.getD_eq_getElem?_getD, List.getElem?_eq_getElem hm]; exact e
  rcases Nat.lt_trichotomy m i with h1 | h1 | h1
  · have := h.2.1 m h1; omega
  · subst h1; rw [decide_eq_true hm, decide_eq_true e'] at hn; cases hn
  · have h2 := h.2.2 i (Nat.le_refl _) (by omega)
    have h3 := rising_at hr h1 hm
    omega
theorem filter_at {xs : List Int} {x : Int} {i : Nat} (hr : Rising xs) (hi : i < xs.length) (e : xs.getD i 0 = x) : xs.filter (fun q => !(q == x)) = xs.take i ++ xs.drop (i + 1) := by
  have e0 : xs[i] = x := by rw [List.getD_eq_getElem?_getD, List.getElem?_eq_getElem hi] at e; exact e
  have hs : xs = xs.take i ++ xs[i] :: xs.drop (i + 1) := by rw [← List.drop_eq_getElem_cons hi, List.take_append_drop]
  have n1 : x ∉ xs.take i := fun hm => by
    have := rising_take hr hi x hm
    omega
  have n2 : x ∉ xs.drop (i + 1) := fun hm => by
    obtain ⟨m, hm', em⟩ := List.getElem_of_mem hm
    rw [List.getElem_drop] at em
    rw [List.length_drop] at hm'
    have := rising_at hr (show i < i + 1 + m by omega) (by omega)
    rw [e, List.getD_eq_getElem?_getD, List.getElem?_eq_getElem (by omega)] at this
    simp only [Option.getD_some] at this
    omega
  conv => lhs; rw [hs]
  rw [List.filter_append, List.filter_cons_of_neg (by simp [e0]), filter_not x n1, filter_not x n2]
theorem put_there {x : Int} : ∀ {xs : List Int}, Rising xs → x ∈ xs → putI x xs = xs
  | [], _, h => by simp at h
  | y :: xs, hr, h => by
    have hr' := List.pairwise_cons.1 hr
    unfold putI
    rcases List.mem_cons.1 h with rfl | h
    · rw [if_neg (by omega), if_pos rfl]
    · have := hr'.1 x h
      rw [if_pos this, put_there hr'.2 h]
theorem put_at {x : Int} : ∀ {xs : List Int} {i : Nat}, i ≤ xs.length → (∀ t, t < i → xs.getD t 0 < x) → (∀ t, i ≤ t → t < xs.length → x < xs.getD t 0) → putI x xs = xs.take i ++ [x] ++ xs.drop i
  | [], i, h, _, _ => by simp [putI]
  | y :: xs, 0, h, _, h2 => by
    have := h2 0 (Nat.le_refl _) (by simp)
    simp at this
    unfold putI
    rw [if_neg (by omega), if_neg (by omega)]
    simp
  | y :: xs, i + 1, h, h1, h2 => by
    have := h1 0 (by omega)
    simp at this
    unfold putI
    rw [if_pos this, put_at (i := i) (by simpa using h) (fun t ht => by simpa using h1 (t + 1) (by omega)) (fun t ht hl => by simpa using h2 (t + 1) (by omega) (by simpa using hl))]
    simp
set_option maxHeartbeats 4000000 in
theorem remove_any {w : World} {base P g : Nat} {xs : List Int} (hbs : base ≤ w.heap.size) (hP : w.heap[P]? = some (stb (.slice (some ⟨g, 0, none⟩) xs.length xs.length))) (F : Full w g xs) (hg : base ≤ g) (hgP : g ≠ P) (hr : Rising xs) (hl : xs.length ≤ 1000) (x : Int) :
    Calls Tryz.prog 89 #[.pointer (some ⟨P, 0, none⟩), .int .i64 x] w fun e w' => e = .returned (.tuple #[]) ∧ ∃ v', w'.heap[P]? = some (stb v') ∧ rows.Own w' base v' (xs.filter (fun q => !(q == x))) ∧ Ch [g, P] w w' := by
  have O := full_own F hg (show xs.length ≤ maxLen by unfold maxLen; omega)
  have BS := binSearchI_any (own_ints O) hr (by omega) x
  obtain ⟨z0, _⟩ := stb_cells hP
  have HP : Hid _ := hP
  have HO : Hid _ := O
  have HF : Hid _ := F
  have HR : Hid _ := hr
  clear hP O F hr
  go_enter Tryz.func89, Tryz.ntmps89
  go_wp2_with fail
  refine BS.mono ?_
  clear BS
  rintro e w3 ⟨i, hE, rfl, hw3⟩
  rw [hw3]
  clear hw3 w3
  obtain ⟨bb, hbb⟩ : ∃ bb, (decide (i < xs.length) && decide (xs.getD i 0 = x)) = bb := ⟨_, rfl⟩
  rw [hbb]
  cases bb
  · have HN : Hid (xs.filter (fun q => !(q == x)) = xs) := filter_not x (ends_not HR.out hE hbb)
    clear hbb hE
    go_wp2_with fail
    exact bodyPost_end (results_none rfl _ _ _) rfl ⟨rfl, _, HP.out, by rw [HN.out]; exact HO.out, Ch.refl _ _⟩
  · rw [Bool.and_eq_true, decide_eq_true_eq, decide_eq_true_eq] at hbb
    have DE := deleteI_any (base := base) hbs HF.out hg hbb.1 hl
    have HN : Hid _ := filter_at HR.out hbb.1 hbb.2
    have hi' : (i : Int) < (xs.length : Int) := by omega
    clear hbb hE
    go_wp2_with (go_at_call 119; refine DE.mono ?_; clear DE; rintro e w4 ⟨v4, rfl, O4, C4, K4⟩; obtain ⟨va, vn, vc, rfl⟩ := ints_slice (own_ints O4); have q4 := (C4.block P (lt_of_block HP.out) (by simp; omega)).trans HP.out; obtain ⟨y0, f0⟩ := stb_cells q4; have HQ4 : Hid _ := q4; have HO4 : Hid _ := O4; have HC4 : Hid _ := C4; have HK4 : Hid _ := K4; clear q4 O4 C4 K4)
    have nP : P ∉ blk (Value.slice va vn vc) := fun hk => by
      have := HK4.out P hk
      have := lt_of_block HP.out
      omega
    refine bodyPost_end (results_none rfl _ _ _) rfl ⟨rfl, _, stb_set HQ4.out _, ?_, ?_⟩
    · rw [HN.out]
      exact row_ch (S := [P]) HO4.out (one_ch _ _ _ _) (fun k hk => by simp; rintro rfl; exact nP hk)
    · exact (HC4.out.mono (fun k hk => by simp at hk; simp [hk])).trans ((one_ch _ _ _ _).mono (fun k hk => by simp at hk; simp [hk]))
set_option maxHeartbeats 4000000 in
theorem add_any {w : World} {base P g : Nat} {xs : List Int} (hbs : base ≤ w.heap.size) (hP : w.heap[P]? = some (stb (.slice (some ⟨g, 0, none⟩) xs.length xs.length))) (F : Full w g xs) (hg : base ≤ g) (hgP : g ≠ P) (hr : Rising xs) (hl : xs.length ≤ 1000) (x : Int) :
    Calls Tryz.prog 90 #[.pointer (some ⟨P, 0, none⟩), .int .i64 x] w fun e w' => e = .returned (.tuple #[]) ∧ ∃ v', w'.heap[P]? = some (stb v') ∧ rows.Own w' base v' (putI x xs) ∧ Ch [g, P] w w' := by
  have O := full_own F hg (show xs.length ≤ maxLen by unfold maxLen; omega)
  have BS := binSearchI_any (own_ints O) hr (by omega) x
  obtain ⟨z0, _⟩ := stb_cells hP
  have HP : Hid _ := hP
  have HO : Hid _ := O
  have HF : Hid _ := F
  have HR : Hid _ := hr
  clear hP O F hr
  go_enter Tryz.func90, Tryz.ntmps90
  go_wp2_with fail
  refine BS.mono ?_
  clear BS
  rintro e w3 ⟨i, hE, rfl, hw3⟩
  rw [hw3]
  clear hw3 w3
  obtain ⟨bb, hbb⟩ : ∃ bb, (decide (i < xs.length) && decide (xs.getD i 0 = x)) = bb := ⟨_, rfl⟩
  rw [hbb]
  cases bb
  · have hnx := ends_not HR.out hE hbb
    have hne : ∀ t, t < xs.length → xs.getD t 0 ≠ x := fun t ht e => hnx (by rw [← e, List.getD_eq_getElem?_getD, List.getElem?_eq_getElem ht]; exact List.getElem_mem ht)
    have HN : Hid (putI x xs = xs.take i ++ [x] ++ xs.drop i) := put_at hE.1 hE.2.1 (fun t h1 h2 => by have := hE.2.2 t h1 h2; have := hne t h2; omega)
    have hi := hE.1
    have B1 : Below w.heap.size w (w.alloc (.cells #[.int .i64 x] 2)) := (Below.refl _ _).alloc (Nat.le_refl _) _
    have HW : Full (w.alloc (.cells #[.int .i64 x] 2)) w.heap.size [x] := heap_alloc_new w _
    have DE := insertI_any (base := base) (Nat.le_trans hbs B1.size) ((B1.block g (lt_of_block HF.out)).trans HF.out : Full _ g xs) hg (own_ints (full_own (base := 0) HW (Nat.zero_le _) (show 1 ≤ maxLen by decide))) hi hl
    have hp1 := stb_cells ((B1.block P (lt_of_block HP.out)).trans HP.out)
    have z1 := hp1.1
    have HB1 : Hid _ := B1
    have hi' : (i : Int) ≤ (xs.length : Int) := by omega
    clear hbb hE hne hnx HW B1 hp1
    go_wp2_with fail
    generalize w.alloc (.cells #[.int .i64 x] 2) = X at *
    refine DE.mono ?_
    clear DE
    rintro e w4 ⟨v4, rfl, O4, C4, K4⟩
    obtain ⟨va, vn, vc, rfl⟩ := ints_slice (own_ints O4)
    have q4 := (C4.block P (Nat.lt_of_lt_of_le (lt_of_block HP.out) HB1.out.size) (by simp; omega)).trans ((HB1.out.block P (lt_of_block HP.out)).trans HP.out)
    obtain ⟨y0, f0⟩ := stb_cells q4
    have HQ4 : Hid _ := q4
    have HO4 : Hid _ := O4
    have HC4 : Hid _ := C4
    have HK4 : Hid _ := K4
    clear q4 O4 C4 K4 z1
    have nP : P ∉ blk (Value.slice va vn vc) := fun hk => by
      have := HK4.out P hk
      have := lt_of_block HP.out
      have := HB1.out.size
      omega
    go_wp2_with fail
    refine bodyPost_end (results_none rfl _ _ _) rfl ⟨rfl, _, stb_set HQ4.out _, ?_, ?_⟩
    · rw [HN.out]
      exact row_ch (S := [P]) HO4.out (one_ch _ _ _ _) (fun k hk => by simp; rintro rfl; exact nP hk)
    · exact ((ch_below HB1.out).trans (HC4.out.mono (fun k hk => by simp at hk; simp [hk]))).trans ((one_ch _ _ _ _).mono (fun k hk => by simp at hk; simp [hk]))
  · rw [Bool.and_eq_true, decide_eq_true_eq, decide_eq_true_eq] at hbb
    have HN : Hid (putI x xs = xs) := put_there HR.out (by rw [← hbb.2, List.getD_eq_getElem?_getD, List.getElem?_eq_getElem hbb.1]; exact List.getElem_mem hbb.1)
    clear hbb hE
    go_wp2_with fail
    exact bodyPost_end (results_none rfl _ _ _) rfl ⟨rfl, _, HP.out, by rw [HN.out]; exact HO.out, Ch.refl _ _⟩
end Go.Proofs.YthgjnnhmcihinaaGreat.hp
