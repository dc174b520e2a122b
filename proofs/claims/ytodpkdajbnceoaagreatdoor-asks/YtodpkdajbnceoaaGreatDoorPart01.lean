import Derived.Test.YtodpkdajbnceoaaGreatDoorProg
import Derived.WalkKit
import Derived.WalkSpells
import Derived.WalkLawsBesides
import Derived.Deep.LoopGhost
import Derived.Deep.DeepCutAuto
import Derived.Deep.CutBlock
import Derived.Deep.Light
set_option linter.all false
set_option maxHeartbeats 1000000
set_option maxRecDepth 100000
namespace Go.Proofs.YtodpkdajbnceoaaGreatDoor
open Go.RowKit
theorem hide {p : Prop} (h : p) : Hid p := h
def cls (c : Int) : Int :=
  if 97 ≤ c ∧ c ≤ 122 then 115 else if (65 ≤ c ∧ c ≤ 90) ∨ c = 95 then 99 else if 48 ≤ c ∧ c ≤ 57 then 100 else 0
theorem ret_int {k : IntKind} {a b : Int} (h : a = b) : Ending.returned (.int k a) = .returned (.int k b) := by rw [h]
theorem class_any (c : Int) (w : World) :
    Calls Tryz.prog 126 #[.int .u8 c] w fun e w' => e = .returned (.int .u8 (cls c)) ∧ w' = w := by
  go_enter Tryz.func126, Tryz.ntmps126
  go_wp2
  all_goals
    go_ret
    refine ⟨ret_int ?_, rfl⟩
    try simp only [beq_iff_eq, beq_eq_false_iff_ne, ne_eq] at *
    unfold cls
    repeat' split
    all_goals omega
def digVal (l : List UInt8) : Int := l.foldl (fun v c => 10 * v + ((c.toNat : Int) - 48)) 0
theorem digVal_snoc (l : List UInt8) (c : UInt8) : digVal (l ++ [c]) = 10 * digVal l + ((c.toNat : Int) - 48) := by
  simp [digVal, List.foldl_append]
theorem take_snoc (s : ByteArray) (k : Nat) (h : k < s.size) : s.data.toList.take (k + 1) = s.data.toList.take k ++ [s[k]] := by
  rw [List.take_succ_eq_append_getElem (by simpa using h)]; rfl
def AllDig (l : List UInt8) : Prop := ∀ c ∈ l, 48 ≤ c.toNat ∧ c.toNat ≤ 57
theorem digFold_bound (l : List UInt8) : ∀ (v : Int) (n : Nat), AllDig l → 0 ≤ v → v < 10 ^ n →
    0 ≤ l.foldl (fun v c => 10 * v + ((c.toNat : Int) - 48)) v ∧ l.foldl (fun v c => 10 * v + ((c.toNat : Int) - 48)) v < 10 ^ (n + l.length) := by
  induction l with
  | nil => intro v n _ h0 h1; exact ⟨h0, h1⟩
  | cons c l ih =>
    intro v n h h0 h1
    have h2 := h c (by simp)
    have := ih (10 * v + ((c.toNat : Int) - 48)) (n + 1) (fun c hc => h c (by simp [hc])) (by omega) (by rw [Int.pow_succ]; omega)
    simpa [Nat.add_assoc, Nat.add_comm 1] using this
theorem digVal_bound (l : List UInt8) (h : AllDig l) : 0 ≤ digVal l ∧ digVal l < 10 ^ l.length := by
  simpa [digVal] using digFold_bound l 0 0 h (by omega) (by omega)
theorem pow_le9 (n : Nat) (h : n ≤ 9) : (10 : Int) ^ n ≤ 1000000000 := by
  have : n = 0 ∨ n = 1 ∨ n = 2 ∨ n = 3 ∨ n = 4 ∨ n = 5 ∨ n = 6 ∨ n = 7 ∨ n = 8 ∨ n = 9 := by omega
  rcases this with h | h | h | h | h | h | h | h | h | h <;> subst h <;> decide
theorem value_any (s : ByteArray) (w : World) (hs : s.size ≤ 9) (hd : AllDig s.data.toList) :
    Calls Tryz.prog 233 #[.string s] w fun e w' => e = .returned (.int .i64 (digVal s.data.toList)) ∧ w' = w := by
  go_enter Tryz.func233, Tryz.ntmps233
  go_wp2
  go_loop [3, 4] (fun v i => ∃ k : Nat, k ≤ s.size ∧ i = .int .i64 k ∧ v = .int .i64 (digVal (s.data.toList.take k))) (fun _ i => s.size - (intOf i).toNat)
  case atStart => exact ⟨0, Nat.zero_le _, rfl, rfl⟩
  case round =>
    obtain ⟨k, hk, rfl, rfl⟩ := hrel
    have hb := digVal_bound (s.data.toList.take k) (fun c hc => hd c (List.mem_of_mem_take hc))
    have hp := pow_le9 (s.data.toList.take k).length (by have := List.length_take_le k s.data.toList; omega)
    have hb1 : digVal (s.data.toList.take k) < 1000000000 := by omega
    by_cases hlt : k < s.size
    · have hsn := digVal_snoc (s.data.toList.take k) s[k]
      have hts := take_snoc s k hlt
      have hc := hd s[k] (by show s.data[k] ∈ _; simp)
      obtain ⟨hc1, hc2⟩ := hc
      have HS : Hid (digVal (s.data.toList.take (k + 1)) = 10 * digVal (s.data.toList.take k) + ((s[k].toNat : Int) - 48)) := by rw [hts]; exact hsn
      clear hsn hts hp
      go_wp2
      go_round
      case rel => exact ⟨k + 1, by omega, by go_num, by rw [HS.out]⟩
      case measure => simp [intOf]; omega
    · go_wp2
      go_ret
      exact ⟨ret_int (by rw [List.take_of_length_le (by simp; omega)]), rfl⟩
def wordK (l : List UInt8) : Int :=
  if cls (l.headD 0).toNat = 115 ∧ l.length ≤ 8 then 97
  else if cls (l.headD 0).toNat = 99 ∧ l.length ≤ 8 then 118
  else if cls (l.headD 0).toNat ≠ 100 ∨ 9 < l.length ∨ ((l.headD 0).toNat = 48 ∧ 1 < l.length) then 0
  else if l.all (fun c => decide (48 ≤ c.toNat ∧ c.toNat ≤ 57)) then 110 else 0
def tokV (k : Int) (t : ByteArray) (a : Int) : Value := .agg #[.int .u8 k, .string t, .int .i64 a]
def wordV (s : ByteArray) (a : Int) : Value := if wordK s.data.toList = 0 then tokV 0 ByteArray.empty 0 else tokV (wordK s.data.toList) s a
theorem headD_eq (s : ByteArray) (h : 0 < s.size) : s.data.toList.headD 0 = s[0] := by
  obtain ⟨⟨l⟩⟩ := s
  cases l with
  | nil => simp [ByteArray.size] at h
  | cons a l => rfl
theorem wordV_a {s : ByteArray} {a : Int} (hs : 0 < s.size) (h1 : cls (s[0].toNat : Int) = 115) (h2 : (s.size : Int) ≤ 8) : wordV s a = tokV 97 s a := by
  have hl : s.data.toList.length ≤ 8 := by simp; omega
  have hk : wordK s.data.toList = 97 := by unfold wordK; rw [headD_eq s hs]; simp [h1]; omega
  simp [wordV, hk]
theorem wordV_v {s : ByteArray} {a : Int} (hs : 0 < s.size) (h1 : cls (s[0].toNat : Int) = 99) (h2 : (s.size : Int) ≤ 8) : wordV s a = tokV 118 s a := by
  have hk : wordK s.data.toList = 118 := by unfold wordK; rw [headD_eq s hs]; simp [h1]; omega
  simp [wordV, hk]
theorem wordV_0 {s : ByteArray} {a : Int} (hs : 0 < s.size) (h1 : cls (s[0].toNat : Int) = 115 → (8 : Int) < s.size) (h2 : cls (s[0].toNat : Int) = 99 → (8 : Int) < s.size)
    (h3 : cls (s[0].toNat : Int) = 100 → (9 : Int) < s.size ∨ ((s[0].toNat : Int) = 48 ∧ (1 : Int) < s.size)) : wordV s a = tokV 0 ByteArray.empty 0 := by
  have hl : s.data.toList.length = s.size := by simp
  have hk : wordK s.data.toList = 0 := by
    unfold wordK; rw [headD_eq s hs, hl]
    rw [if_neg (by rintro ⟨x, y⟩; have := h1 x; omega), if_neg (by rintro ⟨x, y⟩; have := h2 x; omega), if_pos]
    by_cases h : cls (s[0].toNat : Int) = 100
    · right; rcases h3 h with h | h <;> omega
    · exact .inl h
  simp [wordV, hk]
theorem wordV_n {s : ByteArray} {a : Int} (hs : 0 < s.size) (h1 : cls (s[0].toNat : Int) = 100) (h2 : (s.size : Int) ≤ 9) (h3 : (s[0].toNat : Int) = 48 → (s.size : Int) ≤ 1)
    (h4 : ∀ c ∈ s.data.toList, 48 ≤ c.toNat ∧ c.toNat ≤ 57) : wordV s a = tokV 110 s a := by
  have hl : s.data.toList.length = s.size := by simp
  have hk : wordK s.data.toList = 110 := by
    unfold wordK; rw [headD_eq s hs, hl]
    rw [if_neg (by rintro ⟨x, y⟩; omega), if_neg (by rintro ⟨x, y⟩; omega), if_neg (by rintro (x | x | ⟨x, y⟩) <;> omega), if_pos (by rw [List.all_eq_true]; intro c hc; simpa using h4 c hc)]
  simp [wordV, hk]
theorem wordV_nbad {s : ByteArray} {a : Int} (hs : 0 < s.size) (h1 : cls (s[0].toNat : Int) = 100) (k : Nat) (hk : k < s.size)
    (h4 : (s[k].toNat : Int) < 48 ∨ 57 < (s[k].toNat : Int)) : wordV s a = tokV 0 ByteArray.empty 0 := by
  have hk : wordK s.data.toList = 0 := by
    unfold wordK; rw [headD_eq s hs]
    rw [if_neg (by rintro ⟨x, y⟩; omega), if_neg (by rintro ⟨x, y⟩; omega)]
    split
    · rfl
    · rw [if_neg]
      intro h
      rw [List.all_eq_true] at h
      have := h s[k] (by show s.data[k] ∈ _; simp)
      simp at this; omega
  simp [wordV, hk]
theorem word_any (s : ByteArray) (at_ : Int) (w : World) (hs : 0 < s.size) (hs2 : s.size ≤ 32768) :
    Calls Tryz.prog 127 #[.string s, .int .i64 at_] w fun e w' =>
      e = .returned (wordV s at_) ∧ Below w.heap.size w w' := by
  by_cases hd : cls (s[0].toNat : Int) = 100 ∧ (s.size : Int) ≤ 9 ∧ ((s[0].toNat : Int) = 48 → (s.size : Int) ≤ 1)
  · obtain ⟨h1, h2, h3⟩ := hd
    have h1a : (cls (s[0].toNat : Int) == 115) = false := by rw [h1]; rfl
    have h1b : (cls (s[0].toNat : Int) == 99) = false := by rw [h1]; rfl
    have H1 := hide h1
    have H3 := hide h3
    have h3' : (s[0].toNat : Int) = 48 → (s.size : Int) ≤ 1 := h3
    clear h3
    by_cases hz : (s[0].toNat : Int) = 48
    · have hz1 := h3' hz
      clear h3'
      go_enter Tryz.func127, Tryz.ntmps127
      go_wp2_with (go_at_call 126; refine (class_any _ _).mono ?_; rintro e w' ⟨rfl, rfl⟩)
      go_loop [6] (fun i => ∃ k : Nat, k ≤ s.size ∧ i = .int .i64 k ∧ ∀ j (h : j < s.size), j < k → 48 ≤ s[j].toNat ∧ s[j].toNat ≤ 57) (fun i => s.size - (intOf i).toNat)
      case atStart => exact ⟨0, Nat.zero_le _, rfl, fun _ _ h => absurd h (by omega)⟩
      case round =>
        obtain ⟨k, hk, rfl, hall⟩ := hrel
        have HA : Hid (∀ j (h : j < s.size), j < k → 48 ≤ s[j].toNat ∧ s[j].toNat ≤ 57) := hall
        clear hall
        by_cases hlt : k < s.size
        · by_cases hlo : (s[k].toNat : Int) < 48
          · go_wp2
            exact bodyPost_ret (v := tokV 0 ByteArray.empty 0) (by simp [results, Tryz.results127, go_sem, tokV]; rfl) rfl ⟨by rw [wordV_nbad hs H1.out k hlt (.inl hlo)], (Below.refl _ _).alloc (Nat.le_refl _) _⟩
          · by_cases hhi : 57 < (s[k].toNat : Int)
            · go_wp2
              exact bodyPost_ret (v := tokV 0 ByteArray.empty 0) (by simp [results, Tryz.results127, go_sem, tokV]; rfl) rfl ⟨by rw [wordV_nbad hs H1.out k hlt (.inr hhi)], (Below.refl _ _).alloc (Nat.le_refl _) _⟩
            · go_wp2
              go_round
              case rel => exact ⟨k + 1, by omega, by go_num, fun j hj hjk => by
                by_cases e : j = k
                · subst e; omega
                · exact HA.out j hj (by omega)⟩
              case measure => simp [intOf]; omega
        · go_wp2
          exact bodyPost_ret (v := tokV 110 s at_) (by simp [results, Tryz.results127, go_sem, tokV]) rfl ⟨by rw [wordV_n hs H1.out h2 H3.out (fun c hc => by
            obtain ⟨j, hj, rfl⟩ := List.getElem_of_mem hc
            exact HA.out j (by simpa using hj) (by simp at hj; omega))], (Below.refl _ _).alloc (Nat.le_refl _) _⟩
    · clear h3'
      go_enter Tryz.func127, Tryz.ntmps127
      go_wp2_with (go_at_call 126; refine (class_any _ _).mono ?_; rintro e w' ⟨rfl, rfl⟩)
      go_loop [6] (fun i => ∃ k : Nat, k ≤ s.size ∧ i = .int .i64 k ∧ ∀ j (h : j < s.size), j < k → 48 ≤ s[j].toNat ∧ s[j].toNat ≤ 57) (fun i => s.size - (intOf i).toNat)
      case atStart => exact ⟨0, Nat.zero_le _, rfl, fun _ _ h => absurd h (by omega)⟩
      case round =>
        obtain ⟨k, hk, rfl, hall⟩ := hrel
        have HA : Hid (∀ j (h : j < s.size), j < k → 48 ≤ s[j].toNat ∧ s[j].toNat ≤ 57) := hall
        clear hall
        by_cases hlt : k < s.size
        · by_cases hlo : (s[k].toNat : Int) < 48
          · go_wp2
            exact bodyPost_ret (v := tokV 0 ByteArray.empty 0) (by simp [results, Tryz.results127, go_sem, tokV]; rfl) rfl ⟨by rw [wordV_nbad hs H1.out k hlt (.inl hlo)], (Below.refl _ _).alloc (Nat.le_refl _) _⟩
          · by_cases hhi : 57 < (s[k].toNat : Int)
            · go_wp2
              exact bodyPost_ret (v := tokV 0 ByteArray.empty 0) (by simp [results, Tryz.results127, go_sem, tokV]; rfl) rfl ⟨by rw [wordV_nbad hs H1.out k hlt (.inr hhi)], (Below.refl _ _).alloc (Nat.le_refl _) _⟩
            · go_wp2
              go_round
              case rel => exact ⟨k + 1, by omega, by go_num, fun j hj hjk => by
                by_cases e : j = k
                · subst e; omega
                · exact HA.out j hj (by omega)⟩
              case measure => simp [intOf]; omega
        · go_wp2
          exact bodyPost_ret (v := tokV 110 s at_) (by simp [results, Tryz.results127, go_sem, tokV]) rfl ⟨by rw [wordV_n hs H1.out h2 H3.out (fun c hc => by
            obtain ⟨j, hj, rfl⟩ := List.getElem_of_mem hc
            exact HA.out j (by simpa using hj) (by simp at hj; omega))], (Below.refl _ _).alloc (Nat.le_refl _) _⟩
  · go_enter Tryz.func127, Tryz.ntmps127
    go_wp2_with (go_at_call 126; refine (class_any _ _).mono ?_; rintro e w' ⟨rfl, rfl⟩)
    all_goals first
      | (refine bodyPost_ret (v := tokV 97 s at_) ?_ rfl ⟨congrArg Ending.returned (wordV_a hs ‹_› ‹_›).symm, (Below.refl _ _).alloc (Nat.le_refl _) _⟩; simp [results, Tryz.results127, go_sem, tokV]; done)
      | (refine bodyPost_ret (v := tokV 118 s at_) ?_ rfl ⟨congrArg Ending.returned (wordV_v hs ‹_› ‹_›).symm, (Below.refl _ _).alloc (Nat.le_refl _) _⟩; simp [results, Tryz.results127, go_sem, tokV]; done)
      | (refine bodyPost_ret (v := tokV 0 ByteArray.empty 0) ?_ rfl ⟨congrArg Ending.returned (wordV_0 hs ?_ ?_ ?_).symm, (Below.refl _ _).alloc (Nat.le_refl _) _⟩
         · simp [results, Tryz.results127, go_sem, tokV]; rfl
         all_goals (intro _; omega))
    all_goals (exfalso; omega)
def signL : List (List UInt8) := [[61, 58, 61], [58, 45], [45, 62], [92, 43], [92, 61], [61, 61], [61, 60], [62, 61], [47, 47], [40], [41], [91], [93], [44], [124], [59], [33], [61], [60], [62], [43], [45], [42]]
def B (l : List UInt8) : ByteArray := ⟨l.toArray⟩
def isW (c : UInt8) : Bool := cls c.toNat != 0
def wEnd (s : ByteArray) : Nat → Nat → Nat
  | 0, j => j
  | f + 1, j => if h : j < s.size then if isW s[j] then wEnd s f (j + 1) else j else j
def wordEnd (s : ByteArray) (j : Nat) : Nat := wEnd s (s.size - j) j
theorem wordEnd_step (s : ByteArray) (j : Nat) (h : j < s.size) (hw : isW s[j] = true) : wordEnd s (j + 1) = wordEnd s j := by
  unfold wordEnd
  have : s.size - j = (s.size - (j + 1)) + 1 := by omega
  rw [this, wEnd, dif_pos h, if_pos hw]
theorem wordEnd_stop (s : ByteArray) (j : Nat) (h : j < s.size) (hw : isW s[j] = false) : wordEnd s j = j := by
  unfold wordEnd
  have : s.size - j = (s.size - (j + 1)) + 1 := by omega
  rw [this, wEnd, dif_pos h, if_neg (by simp [hw])]
theorem wordEnd_out (s : ByteArray) (j : Nat) (h : ¬ j < s.size) : wordEnd s j = j := by
  unfold wordEnd
  have : s.size - j = 0 := by omega
  rw [this, wEnd]
theorem wEnd_ge (s : ByteArray) : ∀ f j, j ≤ wEnd s f j
  | 0, j => Nat.le_refl _
  | f + 1, j => by
    rw [wEnd]
    split
    · split
      · exact Nat.le_trans (Nat.le_succ _) (wEnd_ge s f (j + 1))
      · exact Nat.le_refl _
    · exact Nat.le_refl _
theorem wEnd_le (s : ByteArray) : ∀ f j, j ≤ s.size → wEnd s f j ≤ s.size
  | 0, j, h => h
  | f + 1, j, h => by
    rw [wEnd]
    split
    · split
      · exact wEnd_le s f (j + 1) (by omega)
      · exact h
    · exact h
theorem wordEnd_ge (s : ByteArray) (j : Nat) : j ≤ wordEnd s j := wEnd_ge s _ _
theorem wordEnd_le (s : ByteArray) (j : Nat) (h : j ≤ s.size) : wordEnd s j ≤ s.size := wEnd_le s _ _ h
def pointAt (s : ByteArray) (i : Nat) : Bool :=
  if h : i < s.size then s[i] == 46 && (if h2 : i + 1 < s.size then s[i + 1] == 32 || s[i + 1] == 10 else true) else false
def hasAt (s : ByteArray) (i : Nat) (x : List UInt8) : Bool := decide (i + x.length ≤ s.size) && decide (s.extract i (i + x.length) = B x)
def firstOf (s : ByteArray) (i : Nat) (l : List (List UInt8)) : List UInt8 := if pointAt s i then [46] else (l.find? (hasAt s i)).getD []
def signAt (s : ByteArray) (i : Nat) : List UInt8 := firstOf s i signL
theorem u8_eq {c : UInt8} {n : Nat} (hn : n < 256) : ((c.toNat : Int) == (n : Int)) = (c == UInt8.ofNat n) := by
  rw [Bool.eq_iff_iff, beq_iff_eq, beq_iff_eq]
  constructor
  · intro h
    have h' : c.toNat = n := by omega
    rw [← h']; simp
  · intro h; rw [h]; simp; omega
theorem pointAt_end {s : ByteArray} {k : Nat} (h : k < s.size) (h46 : ((s[k].toNat : Int) == 46) = true) (hend : ((k : Int) + 1 == (s.size : Int)) = true) : pointAt s k = true := by
  have h1 : (s[k] == 46) = true := by rw [← h46]; exact (u8_eq (n := 46) (by omega)).symm
  have h2 : ¬ k + 1 < s.size := by have := beq_iff_eq.1 hend; omega
  simp [pointAt, h, h1, h2]
theorem pointAt_32 {s : ByteArray} {k : Nat} (h : k + 1 < s.size) (h46 : ((s[k].toNat : Int) == 46) = true) (h32 : ((s[k + 1].toNat : Int) == 32) = true) : pointAt s k = true := by
  have h1 : (s[k] == 46) = true := by rw [← h46]; exact (u8_eq (n := 46) (by omega)).symm
  have h2 : (s[k + 1] == 32) = true := by rw [← h32]; exact (u8_eq (n := 32) (by omega)).symm
  simp [pointAt, h1, h2]; omega
theorem pointAt_10 {s : ByteArray} {k : Nat} (h : k + 1 < s.size) (h46 : ((s[k].toNat : Int) == 46) = true) (h32 : ((s[k + 1].toNat : Int) == 32) = false) : pointAt s k = ((s[k + 1].toNat : Int) == 10) := by
  have h1 : (s[k] == 46) = true := by rw [← h46]; exact (u8_eq (n := 46) (by omega)).symm
  have h2 : (s[k + 1] == 32) = false := by rw [← h32]; exact (u8_eq (n := 32) (by omega)).symm
  have h3 : ((s[k + 1].toNat : Int) == 10) = (s[k + 1] == 10) := u8_eq (n := 10) (by omega)
  rw [h3]
  have h4 : k < s.size := by omega
  simp only [pointAt, dif_pos h4, dif_pos h, h1, h2, Bool.true_and, Bool.false_or]
theorem pointAt_no {s : ByteArray} {k : Nat} (h : k < s.size) (h46 : ((s[k].toNat : Int) == 46) = false) : pointAt s k = false := by
  have h1 : (s[k] == 46) = false := by rw [← h46]; exact (u8_eq (n := 46) (by omega)).symm
  simp only [pointAt, dif_pos h, h1, Bool.false_and]
theorem firstOf_nil (s : ByteArray) (i : Nat) : firstOf s i (signL.take 0) = if pointAt s i then [46] else [] := by
  simp [firstOf]
theorem sign_ne : ∀ x ∈ signL, x ≠ [] := by decide
theorem firstOf_done {s : ByteArray} {i m : Nat} (h : firstOf s i (signL.take m) ≠ []) : signAt s i = firstOf s i (signL.take m) := by
  unfold signAt firstOf at *
  split
  · rfl
  · rename_i hp
    rw [if_neg hp] at h
    cases hf : (signL.take m).find? (hasAt s i) with
    | none => rw [hf] at h; exact absurd rfl h
    | some x =>
      conv => lhs; rw [← List.take_append_drop m signL]
      rw [List.find?_append, hf]; rfl
theorem signGet (m : Nat) (hm : m < 23) : signL[m]? = some (signL.getD m []) := by
  have : m < signL.length := hm
  simp [List.getD_eq_getElem?_getD, List.getElem?_eq_getElem this]
theorem firstOf_empty {s : ByteArray} {i m : Nat} (h0 : firstOf s i (signL.take m) = []) : pointAt s i = false ∧ (signL.take m).find? (hasAt s i) = none := by
  unfold firstOf at h0
  split at h0
  · cases h0
  · rename_i hp
    refine ⟨by simpa using hp, ?_⟩
    cases hf : (signL.take m).find? (hasAt s i) with
    | none => rfl
    | some x =>
      rw [hf] at h0
      exact absurd h0 (sign_ne x (List.mem_of_mem_take (List.mem_of_find?_eq_some hf)))
theorem firstOf_hit {s : ByteArray} {i m : Nat} (hm : m < 23) (h0 : firstOf s i (signL.take m) = []) (hh : hasAt s i (signL.getD m []) = true) :
    firstOf s i (signL.take (m + 1)) = signL.getD m [] := by
  obtain ⟨hp, hf⟩ := firstOf_empty h0
  unfold firstOf
  rw [if_neg (by simp [hp]), List.take_add_one, signGet m hm, List.find?_append, hf]
  generalize signL.getD m [] = x at *
  simp [hh]
theorem firstOf_miss {s : ByteArray} {i m : Nat} (hm : m < 23) (h0 : firstOf s i (signL.take m) = []) (hh : hasAt s i (signL.getD m []) = false) :
    firstOf s i (signL.take (m + 1)) = [] := by
  obtain ⟨hp, hf⟩ := firstOf_empty h0
  unfold firstOf
  rw [if_neg (by simp [hp]), List.take_add_one, signGet m hm, List.find?_append, hf]
  generalize signL.getD m [] = x at *
  simp [hh]
structure Tok where
  k : Int
  t : ByteArray
  a : Nat
def lexGo (s : ByteArray) : Nat → Nat → List Tok → Except Nat (List Tok)
  | 0, _, acc => .ok acc
  | f + 1, i, acc =>
    if h : i < s.size then
      if s[i] = 32 ∨ s[i] = 10 then lexGo s f (i + 1) acc
      else if i < wordEnd s i then
        if wordK (s.extract i (wordEnd s i)).data.toList = 0 then .error i
        else lexGo s f (wordEnd s i) (acc ++ [⟨wordK (s.extract i (wordEnd s i)).data.toList, s.extract i (wordEnd s i), i⟩])
      else if signAt s i = [] then .error i
      else lexGo s f (i + (signAt s i).length) (acc ++ [⟨115, B (signAt s i), i⟩])
    else .ok acc
def lexS (s : ByteArray) : Except Nat (List Tok) := lexGo s s.size 0 []
theorem lexGo_end {s : ByteArray} {f i : Nat} {acc : List Tok} (h : ¬ i < s.size) : lexGo s f i acc = .ok acc := by
  cases f with
  | zero => rfl
  | succ f => rw [lexGo, dif_neg h]
theorem lexGo_blank {s : ByteArray} {f i : Nat} {acc : List Tok} (h : i < s.size) (hb : s[i] = 32 ∨ s[i] = 10) : lexGo s (f + 1) i acc = lexGo s f (i + 1) acc := by
  rw [lexGo, dif_pos h, if_pos hb]
theorem lexGo_word {s : ByteArray} {f i : Nat} {acc : List Tok} (h : i < s.size) (hb : ¬ (s[i] = 32 ∨ s[i] = 10)) (hw : i < wordEnd s i)
    (hk : wordK (s.extract i (wordEnd s i)).data.toList ≠ 0) : lexGo s (f + 1) i acc = lexGo s f (wordEnd s i) (acc ++ [⟨wordK (s.extract i (wordEnd s i)).data.toList, s.extract i (wordEnd s i), i⟩]) := by
  rw [lexGo, dif_pos h, if_neg hb, if_pos hw, if_neg hk]
theorem lexGo_badword {s : ByteArray} {f i : Nat} {acc : List Tok} (h : i < s.size) (hb : ¬ (s[i] = 32 ∨ s[i] = 10)) (hw : i < wordEnd s i)
    (hk : wordK (s.extract i (wordEnd s i)).data.toList = 0) : lexGo s (f + 1) i acc = .error i := by
  rw [lexGo, dif_pos h, if_neg hb, if_pos hw, if_pos hk]
theorem lexGo_sign {s : ByteArray} {f i : Nat} {acc : List Tok} (h : i < s.size) (hb : ¬ (s[i] = 32 ∨ s[i] = 10)) (hw : ¬ i < wordEnd s i)
    (hk : signAt s i ≠ []) : lexGo s (f + 1) i acc = lexGo s f (i + (signAt s i).length) (acc ++ [⟨115, B (signAt s i), i⟩]) := by
  rw [lexGo, dif_pos h, if_neg hb, if_neg hw, if_neg hk]
theorem lexGo_nosign {s : ByteArray} {f i : Nat} {acc : List Tok} (h : i < s.size) (hb : ¬ (s[i] = 32 ∨ s[i] = 10)) (hw : ¬ i < wordEnd s i)
    (hk : signAt s i = []) : lexGo s (f + 1) i acc = .error i := by
  rw [lexGo, dif_pos h, if_neg hb, if_neg hw, if_pos hk]
def tokCells (l : List Tok) : List Value := l.flatMap fun t => [.int .u8 t.k, .string t.t, .int .i64 t.a]
theorem tokCells_append (l : List Tok) (t : Tok) : tokCells (l ++ [t]) = tokCells l ++ [.int .u8 t.k, .string t.t, .int .i64 t.a] := by
  simp [tokCells, List.flatMap_append]
def withEnd (s : ByteArray) (l : List Tok) : List Tok := l ++ [⟨101, ByteArray.empty, s.size⟩]
def lexPost (s : ByteArray) (w : World) (e : Ending) (w' : World) : Prop :=
  Below w.heap.size w w' ∧
  match lexS s with
  | .error p => e = .returned (.tuple #[.slice none 0 0, .int .i64 p])
  | .ok l => ∃ v, e = .returned (.tuple #[v, .int .i64 (-1)]) ∧ w'.ownsRow w.heap.size 133 3 v (withEnd s l).length (tokCells (withEnd s l))
def signCells : Array Value := (signL.map fun l => Value.string (B l)).toArray
theorem signs_any (w : World) :
    Calls Tryz.prog 125 #[] w fun e w' => e = .returned (.slice (some ⟨w.heap.size, 0, none⟩) 23 23) ∧ w' = w.alloc (.cells signCells 9) := by
  go_enter Tryz.func125, Tryz.ntmps125
  go_wp2
  go_ret
  exact ⟨rfl, rfl⟩
theorem Tryz.infoTok : (Tryz.prog.info? 133).map (fun i => (i.zero, i.size, i.bytes)) = some (some (.agg #[.int .u8 0, .string ByteArray.empty, .int .i64 0]), 3, 32) := by kernel_rfl
theorem byte_or {c : UInt8} (h : c = 32 ∨ c = 10) : ((c.toNat : Int) == 10) = true ∨ ((c.toNat : Int) == 32) = true := by
  rcases h with rfl | rfl
  · right; rfl
  · left; rfl
theorem byte_nor {c : UInt8} (h : ¬ (c = 32 ∨ c = 10)) : ((c.toNat : Int) == 32) = false ∧ ((c.toNat : Int) == 10) = false := by
  have h1 : c.toNat ≠ 32 := fun e => h (.inl (UInt8.toNat_inj.1 e))
  have h2 : c.toNat ≠ 10 := fun e => h (.inr (UInt8.toNat_inj.1 e))
  refine ⟨?_, ?_⟩
  · rw [beq_eq_false_iff_ne]; omega
  · rw [beq_eq_false_iff_ne]; omega
theorem signCell (w : World) (m : Nat) (hm : m < 23) : (w.alloc (.cells signCells 9)).cell? ⟨w.heap.size, m, none⟩ = some (.string (B (signL.getD m []))) := by
  have h : signCells[m]? = some (.string (B (signL.getD m []))) := by
    rw [signCells, List.getElem?_toArray, List.getElem?_map, signGet m hm, Option.map_some]
  rw [cell_of_row _ _ _ signCells 9 (0, 0) (heap_alloc_new w _)]
  exact h
theorem B_toList (l : List UInt8) : (B l).toList = l := by simp [B, ByteArray.toList_eq]
theorem B_e {l : List UInt8} (h : l = []) : (B l).toList.isEmpty = true := by rw [B_toList, h]; rfl
theorem BA_ext {a b : ByteArray} (h : a.toList = b.toList) : a = b := by
  rw [ByteArray.toList_eq, ByteArray.toList_eq] at h
  cases a; cases b; simp at h; rw [h]
theorem B_size (l : List UInt8) : (B l).size = l.length := by simp [B, ByteArray.size]
theorem hasAt_true {s : ByteArray} {k : Nat} {X : List UInt8} (hle : (k : Int) + ((B X).size : Int) ≤ (s.size : Int)) (heq : ((s.extract k (k + (B X).size)).toList == (B X).toList) = true) : hasAt s k X = true := by
  rw [B_size] at hle heq
  have h1 : k + X.length ≤ s.size := by omega
  have h2 : s.extract k (k + X.length) = B X := BA_ext (by simpa using heq)
  simp [hasAt, h1, h2]
theorem hasAt_false {s : ByteArray} {k : Nat} {X : List UInt8} (heq : ((s.extract k (k + (B X).size)).toList == (B X).toList) = false) : hasAt s k X = false := by
  rw [B_size] at heq
  have h2 : ¬ (s.extract k (k + X.length) = B X) := by
    rw [beq_eq_false_iff_ne] at heq
    intro e; exact heq (by rw [e])
  simp [hasAt, h2]
theorem hasAt_far {s : ByteArray} {k : Nat} {X : List UInt8} (hle : ¬ (k : Int) + ((B X).size : Int) ≤ (s.size : Int)) : hasAt s k X = false := by
  rw [B_size] at hle
  have h1 : ¬ k + X.length ≤ s.size := by omega
  simp [hasAt, h1]
theorem signAt_cases (s : ByteArray) (k : Nat) : signAt s k = [] ∨ (signAt s k = [46] ∧ pointAt s k = true) ∨ (signAt s k ∈ signL ∧ hasAt s k (signAt s k) = true) := by
  unfold signAt firstOf
  split
  · rename_i h; exact .inr (.inl ⟨rfl, h⟩)
  · cases hf : signL.find? (hasAt s k) with
    | none => exact .inl rfl
    | some x => exact .inr (.inr ⟨List.mem_of_find?_eq_some hf, List.find?_some hf⟩)
theorem signAt_len (s : ByteArray) (k : Nat) : (B (signAt s k)).size ≤ 3 := by
  rw [B_size]
  rcases signAt_cases s k with h | ⟨h, _⟩ | ⟨h, _⟩
  · rw [h]; simp
  · rw [h]; simp
  · have : ∀ x ∈ signL, x.length ≤ 3 := by decide
    exact this _ h
theorem signAt_fits (s : ByteArray) (k : Nat) (hk : k < s.size) : k + (B (signAt s k)).size ≤ s.size := by
  rw [B_size]
  rcases signAt_cases s k with h | ⟨h, hp⟩ | ⟨_, h⟩
  · rw [h]; simp; omega
  · rw [h]; simp; omega
  · simp [hasAt] at h; omega
theorem lexPost_err {s : ByteArray} {w w' : World} {p : Nat} (h : lexS s = .error p) (hb : Below w.heap.size w w') : lexPost s w (.returned (.tuple #[.slice none 0 0, .int .i64 p])) w' := by
  unfold lexPost; rw [h]; exact ⟨hb, rfl⟩
theorem lexPost_ok {s : ByteArray} {w w' : World} {l : List Tok} {v : Value} (h : lexS s = .ok l) (hb : Below w.heap.size w w')
    (ho : w'.ownsRow w.heap.size 133 3 v (withEnd s l).length (tokCells (withEnd s l))) : lexPost s w (.returned (.tuple #[v, .int .i64 (-1)])) w' := by
  unfold lexPost; rw [h]; exact ⟨hb, v, rfl, ho⟩
theorem lex_below {w w' : World} {o : Obj} (h : Below (w.heap.size + 1) (w.alloc o) w') : Below w.heap.size w w' :=
  ((Below.refl _ _).alloc (Nat.le_refl _) o).trans (h.mono (by omega))
theorem Tryz.underlyingToks : Tryz.prog.underlying 99 = some (.slice 133) := by kernel_rfl
theorem cells3 (w : World) (x y z : Value) (T : TypeId) : ∀ j u, [x, y, z][j]? = some u → (w.alloc (.cells #[x, y, z] T)).cell? ((⟨w.heap.size, 0, none⟩ : Addr).add j) = some u := by
  intro j u h
  have hadd : (⟨w.heap.size, 0, none⟩ : Addr).add j = ⟨w.heap.size, j, none⟩ := by unfold Addr.add; split <;> simp_all
  rw [hadd, cell_of_row _ _ _ #[x, y, z] T (0, 0) (heap_alloc_new w _)]
  simpa using h
theorem cells3' (w : World) (o : Obj) (x y z : Value) (T : TypeId) : ∀ j u, [x, y, z][j]? = some u → ((w.alloc o).alloc (.cells #[x, y, z] T)).cell? ((⟨w.heap.size + 1, 0, none⟩ : Addr).add j) = some u := by
  have := cells3 (w.alloc o) x y z T
  simpa using this
theorem grow_below {n : Nat} {W0 wr w1 : World} {o : Obj} {T : TypeId} {sz : Nat} {v : Value} {m : Nat} {xs : List Value} (hbel : Below n W0 wr) (hown : wr.ownsRow n T sz v m xs)
    (hg : (wr.alloc o).grownBy w1 v.ownBlock) (hn : n ≤ W0.heap.size := by simp) : Below n W0 w1 :=
  (hbel.alloc (Nat.le_trans hn hbel.size) o).grown hg (by have := hbel.size; simp; omega) (fun k e => (hown.lt k e).1)
theorem ownsRow_base {w : World} {b b' : Nat} {T : TypeId} {sz : Nat} {v : Value} {m : Nat} {xs : List Value} (h : w.ownsRow b T sz v m xs) (hb : b' ≤ b) : w.ownsRow b' T sz v m xs := by
  refine ⟨h.1, ?_⟩
  rcases h.2 with h | ⟨g, cap, cur, h1, h2, h3⟩
  · exact .inl h
  · exact .inr ⟨g, cap, cur, h1, Nat.le_trans hb h2, h3⟩
theorem lex_below2 {w wr w' : World} {o : Obj} (hbel : Below (w.heap.size + 1) (w.alloc o) wr) (hbw : Below wr.heap.size wr w') (o' : Obj) : Below (w.heap.size + 1) (w.alloc o) (w'.alloc o') := by
  have h1 : w.heap.size + 1 ≤ wr.heap.size := by have := hbel.size; simpa using this
  exact (hbel.trans (hbw.mono h1)).alloc (Nat.le_trans h1 hbw.size) o'
theorem own_below {w w' : World} {b : Nat} {T : TypeId} {sz : Nat} {v : Value} {m : Nat} {xs : List Value} (h : w.ownsRow b T sz v m xs) (hb : Below w.heap.size w w') : w'.ownsRow b T sz v m xs :=
  h.kept (row := none) ⟨hb.os, hb.tape, hb.output, hb.size, fun k hk _ => hb.block k hk⟩ (by cases hv : v.ownBlock <;> simp)
theorem B_ne {l : List UInt8} (h : l ≠ []) : (B l).toList.isEmpty = false := by
  have : (B l).toList = l := by simp [B, ByteArray.toList_eq]
  rw [this]; simpa using h
theorem sign_len (m : Nat) : (B (signL.getD m [])).size ≤ 3 := by
  by_cases h : m < 23
  · have : ∀ x ∈ signL, x.length ≤ 3 := by decide
    have hx : signL.getD m [] ∈ signL := List.mem_of_getElem? (signGet m h)
    have := this _ hx
    simpa [B, ByteArray.size] using this
  · have : signL.getD m [] = [] := by
      rw [List.getD_eq_getElem?_getD, List.getElem?_eq_none (by show 23 ≤ m; omega)]; rfl
    rw [this]; decide
def lexRel (s : ByteArray) (w : World) (g : Nat) (v i : Value) (wr : World) : Prop :=
  ∃ (k f : Nat) (acc : List Tok), k + g = s.size ∧ i = .int .i64 k ∧ s.size - k ≤ f ∧ lexGo s f k acc = lexS s ∧ acc.length ≤ k ∧
    wr.ownsRow (w.heap.size + 1) 133 3 v acc.length (tokCells acc) ∧ Below (w.heap.size + 1) (w.alloc (.cells signCells 9)) wr
theorem lex_any (s : ByteArray) (w : World) (hs : s.size ≤ 2000) :
    Calls Tryz.prog 79 #[.string s] w fun e w' => lexPost s w e w' := by
  obtain ⟨i0, hi, hz0, hz1, hz2⟩ := info_parts Tryz.infoTok
  go_enter Tryz.func79, Tryz.ntmps79
  go_wp2_with (go_at_call 125; refine (signs_any _).mono ?_; rintro e w' ⟨rfl, rfl⟩)
  go_loopg [4, 6] s.size (fun g v i wr => lexRel s w g v i wr)
  case atStart => exact ⟨0, s.size, [], by omega, rfl, by omega, rfl, Nat.le_refl _, World.ownsRow_nil _ _ _ _, Below.refl _ _⟩
  case round =>
    obtain ⟨k, f, acc, hkg, rfl, hf, hgo, hal, hown, hbel⟩ := hrel
    have HG := hide hgo
    clear hgo
    have hk : k ≤ s.size := by omega
    by_cases hlt : k < s.size
    · obtain ⟨f, rfl⟩ : ∃ g, f = g + 1 := ⟨f - 1, by omega⟩
      by_cases hb : s[k] = 32 ∨ s[k] = 10
      · have HG' : Hid (lexGo s f (k + 1) acc = lexS s) := by rw [← lexGo_blank hlt hb]; exact HG.out
        have hb2 : ((s[k].toNat : Int) == 10) = true ∨ ((s[k].toNat : Int) == 32) = true := byte_or hb
        rcases hb2 with hb2 | hb2
        all_goals
          go_wp2_with fail
          all_goals
            go_roundg (gk - 1)
            case measure => omega
            case rel => exact ⟨k + 1, f, acc, by omega, by go_num, by omega, HG'.out, by omega, hown, hbel⟩
      · obtain ⟨hb1, hb2⟩ := byte_nor hb
        have HB := hide hb
        clear hb
        have hbt : ∀ j : Nat, (hj : j < s.size) → 0 ≤ (s[j].toNat : Int) ∧ (s[j].toNat : Int) ≤ 255 := fun j hj => ⟨by omega, by have := s[j].toNat_lt; omega⟩
        go_upto_block 2 with fail
        go_cut [8] (fun j wx => j = .int .i64 (wordEnd s k : Nat) ∧ wr = wx)
        case first =>
          go_wp2_with fail
          go_loopg [8] (s.size - k) (fun g j wx => wr = wx ∧ ∃ m : Nat, k ≤ m ∧ m + g = s.size ∧ j = .int .i64 m ∧ wordEnd s m = wordEnd s k)
          case atStart => exact ⟨rfl, k, Nat.le_refl _, by omega, rfl, rfl⟩
          case round =>
            obtain ⟨rfl, m, hkm, hm, rfl, hwe⟩ := hrel
            have HE := hide hwe
            clear hwe
            have hm' : m ≤ s.size := by omega
            by_cases hmlt : m < s.size
            · cases hw : isW s[m] with
              | true =>
                have hw2 : (cls (s[m].toNat : Int) != 0) = true := hw
                have HE2 : Hid (wordEnd s (m + 1) = wordEnd s k) := by unfold Hid; rw [← HE.out]; exact wordEnd_step s m hmlt hw
                clear hw
                go_wp2_with (go_at_call 126; refine (class_any _ _).mono ?_; rintro e w' ⟨rfl, rfl⟩)
                go_roundg (gk - 1)
                case measure => omega
                case rel => exact ⟨rfl, m + 1, by omega, by omega, by go_num, HE2.out⟩
              | false =>
                have hw2 : (cls (s[m].toNat : Int) != 0) = false := hw
                have HE2 : Hid (wordEnd s k = m) := by unfold Hid; rw [← HE.out]; exact wordEnd_stop s m hmlt hw
                clear hw
                go_wp2_with (go_at_call 126; refine (class_any _ _).mono ?_; rintro e w' ⟨rfl, rfl⟩)
                go_meet
                case rel => exact ⟨by rw [HE2.out], rfl⟩
            · have HE2 : Hid (wordEnd s k = m) := by unfold Hid; rw [← HE.out]; exact wordEnd_out s m hmlt
              go_wp2_with (go_at_call 126; refine (class_any _ _).mono ?_; rintro e w' ⟨rfl, rfl⟩)
              go_meet
              case rel => exact ⟨by rw [HE2.out], rfl⟩
        case rest =>
          obtain ⟨rfl, rfl⟩ := hcut
          have hE1 := wordEnd_ge s k
          have hE2 := wordEnd_le s k hk
          obtain ⟨E, hE⟩ : ∃ E, E = wordEnd s k := ⟨_, rfl⟩
          rw [← hE] at hE1 hE2
          rw [← hE]
          have HE := hide hE
          clear hE
          by_cases hkE : k < E
          · have hks : k < wordEnd s k := by rw [← HE.out]; exact hkE
            have hxs : (s.extract k E).size = E - k := by simp; omega
            have hx0 : 0 < (s.extract k E).size := by omega
            have hx2 : (s.extract k E).size ≤ 32768 := by omega
            by_cases hwk : wordK (s.extract k E).data.toList = 0
            · have HR : Hid (lexS s = .error k) := by unfold Hid; rw [← HG.out]; exact lexGo_badword hlt HB.out hks (by rw [← HE.out]; exact hwk)
              have HV : Hid (wordV (s.extract k E) k = tokV 0 ByteArray.empty 0) := by unfold Hid wordV; rw [if_pos hwk]
              clear hwk hks hxs
              go_wp2_with (go_at_call 127; refine (word_any _ _ _ hx0 hx2).mono ?_; rintro e w' ⟨rfl, hbw⟩; rw [HV.out]; unfold tokV)
              go_ret2
              exact lexPost_err HR.out (lex_below (lex_below2 hbel hbw _))
            · have HG' : Hid (lexGo s f E (acc ++ [⟨wordK (s.extract k E).data.toList, s.extract k E, k⟩]) = lexS s) := by
                have h := lexGo_word (f := f) (acc := acc) hlt HB.out hks (by rw [← HE.out]; exact hwk)
                rw [← HE.out] at h
                unfold Hid; rw [← h]; exact HG.out
              have HV : Hid (wordV (s.extract k E) k = tokV (wordK (s.extract k E).data.toList) (s.extract k E) k) := by unfold Hid wordV; rw [if_neg hwk]
              obtain ⟨KK, hKK⟩ : ∃ K, K = wordK (s.extract k E).data.toList := ⟨_, rfl⟩
              rw [← hKK] at HG' HV hwk
              have hK0 : (KK == 0) = false := by simpa using hwk
              clear hwk hks hKK hxs
              go_wp2_with (first | (go_at_call 127; refine (word_any _ _ _ hx0 hx2).mono ?_; rintro e w' ⟨rfl, hbw⟩; rw [HV.out]; unfold tokV) | (at_builtin; refine wpList_append_own _ rfl _ _ 99 rfl (w.heap.size + 1) 133 i0 (.agg #[.int .u8 0, .string ByteArray.empty, .int .i64 0]) 3 32 Tryz.underlyingToks hi hz0 hz1 hz2 rfl (by decide) _ _ _ rfl (((own_below hown hbw).alloc _).alloc _) ⟨w'.heap.size + 1, 0, none⟩ 1 1 [.int .u8 KK, .string (s.extract k E), .int .i64 k] rfl rfl ?c1 ?c2 ?c3 ?c4 ?c5 ?_) | go_in)
              case c1 => exact cells3' _ _ _ _ _ _
              case c2 => intro u hu; simp at hu; rcases hu with rfl | rfl | rfl <;> rfl
              case c3 => unfold maxLen; omega
              case c4 => omega
              case c5 => have := (lex_below2 hbel hbw (.cells #[] 0)).size; simp at this ⊢; omega
              intro v' w1 hown' hgrow _
              have hb1 := grow_below (lex_below2 hbel hbw _) ((own_below hown hbw).alloc _) hgrow
              clear hown hgrow hbel hbw
              go_wp2_with fail
              go_roundg (gk - (E - k))
              case measure => omega
              case rel =>
                refine ⟨E, f, _, by omega, rfl, by omega, HG'.out, by simp; omega, ?_, hb1⟩
                rw [tokCells_append]; simpa using hown'
          · go_upto_region 18 with fail
            go_cut [83] (fun b wx => b = .bool (pointAt s k) ∧ wr = wx)
            case first =>
              by_cases h46 : ((s[k].toNat : Int) == 46) = true
              · by_cases hend : ((k : Int) + 1 == (s.size : Int)) = true
                · have hp : Hid (pointAt s k = true) := pointAt_end hlt h46 hend
                  go_wp2_with fail
                  go_meet
                  case rel => exact ⟨by rw [hp.out], rfl⟩
                · have hend' : ((k : Int) + 1 == (s.size : Int)) = false := by simpa using hend
                  have hk1 : k + 1 < s.size := by have := beq_eq_false_iff_ne.1 hend'; omega
                  by_cases h32 : ((s[k + 1].toNat : Int) == 32) = true
                  · have hp : Hid (pointAt s k = true) := pointAt_32 hk1 h46 h32
                    go_wp2_with fail
                    go_meet
                    case rel => exact ⟨by rw [hp.out], rfl⟩
                  · have h32' : ((s[k + 1].toNat : Int) == 32) = false := by simpa using h32
                    have hp : Hid (pointAt s k = ((s[k + 1].toNat : Int) == 10)) := pointAt_10 hk1 h46 h32'
                    go_wp2_with fail
                    go_meet
                    case rel => exact ⟨by rw [hp.out], rfl⟩
              · have h46' : ((s[k].toNat : Int) == 46) = false := by simpa using h46
                have hp : Hid (pointAt s k = false) := pointAt_no hlt h46'
                go_wp2_with fail
                go_meet
                case rel => exact ⟨by rw [hp.out], rfl⟩
            case rest =>
              obtain ⟨rfl, rfl⟩ := hcut
              obtain ⟨pt, hpt⟩ : ∃ p, p = pointAt s k := ⟨_, rfl⟩
              rw [← hpt]
              have HPT := hide hpt
              clear hpt
              go_upto_if 83 with fail
              go_cut [10] (fun t wx => t = .string (B (firstOf s k (signL.take 0))) ∧ wr = wx)
              case first =>
                cases pt
                all_goals
                  go_wp2_with fail
                  go_meet
                  case rel => exact ⟨by rw [firstOf_nil, ← HPT.out]; rfl, rfl⟩
              case rest =>
                obtain ⟨rfl, rfl⟩ := hcut
                have hsc : ∀ m : Nat, m < 23 → wr.cell? ⟨w.heap.size, m, none⟩ = some (.string (B (signL.getD m []))) := fun m hm => (hbel.cell (by simp)).trans (signCell w m hm)
                go_upto_block 4 with fail
                go_cut [10] (fun t wx => t = .string (B (signAt s k)) ∧ wr = wx)
                case first =>
                  go_wp2_with fail
                  go_loopg [10, 11] 23 (fun g t i wx => wr = wx ∧ ∃ m : Nat, m + g = 23 ∧ i = .int .i64 m ∧ t = .string (B (firstOf s k (signL.take m))))
                  case atStart => exact ⟨rfl, 0, rfl, rfl, rfl⟩
                  case round =>
                    obtain ⟨rfl, m, hm, rfl, rfl⟩ := hrel
                    by_cases hm23 : m < 23
                    · by_cases hemp : firstOf s k (signL.take m) = []
                      · have hcell := hsc m hm23
                        have hXl := sign_len m
                        obtain ⟨X, hX⟩ : ∃ X, X = signL.getD m [] := ⟨_, rfl⟩
                        rw [← hX] at hcell hXl
                        have HX := hide hX
                        have HEMP := hide hemp
                        have hem2 : (B (firstOf s k (signL.take m))).toList.isEmpty = true := B_e hemp
                        clear hX hsc hemp
                        by_cases hle : (k : Int) + ((B X).size : Int) ≤ (s.size : Int)
                        · cases heq : ((s.extract k (k + (B X).size)).toList == (B X).toList) with
                          | true =>
                            have HH : Hid (hasAt s k X = true) := hasAt_true hle heq
                            go_wp2_with fail
                            go_roundg (gk - 1)
                            case measure => omega
                            case rel => exact ⟨rfl, m + 1, by omega, by go_num, by rw [firstOf_hit hm23 HEMP.out (by rw [← HX.out]; exact HH.out), HX.out]⟩
                          | false =>
                            have HH : Hid (hasAt s k X = false) := hasAt_false heq
                            go_wp2_with fail
                            go_roundg (gk - 1)
                            case measure => omega
                            case rel => exact ⟨rfl, m + 1, by omega, by go_num, by rw [firstOf_miss hm23 HEMP.out (by rw [← HX.out]; exact HH.out), HEMP.out]⟩
                        · have HH : Hid (hasAt s k X = false) := hasAt_far hle
                          go_wp2_with fail
                          go_roundg (gk - 1)
                          case measure => omega
                          case rel => exact ⟨rfl, m + 1, by omega, by go_num, by rw [firstOf_miss hm23 HEMP.out (by rw [← HX.out]; exact HH.out), HEMP.out]⟩
                      · have hem2 : (B (firstOf s k (signL.take m))).toList.isEmpty = false := B_ne hemp
                        have HS : Hid (signAt s k = firstOf s k (signL.take m)) := firstOf_done hemp
                        clear hemp hsc
                        go_wp2_with fail
                        go_meet
                        case rel => exact ⟨by rw [HS.out], rfl⟩
                    · have hm3 : m = 23 := by omega
                      subst hm3
                      go_wp2_with fail
                      go_meet
                      case rel => exact ⟨rfl, rfl⟩
                case rest =>
                  obtain ⟨rfl, rfl⟩ := hcut
                  have hkE' : ¬ k < wordEnd s k := by rw [← HE.out]; exact hkE
                  have hsl := signAt_len s k
                  by_cases hse : signAt s k = []
                  · have HR : Hid (lexS s = .error k) := by unfold Hid; rw [← HG.out]; exact lexGo_nosign hlt HB.out hkE' hse
                    have hem2 : (B (signAt s k)).toList.isEmpty = true := B_e hse
                    clear hse hkE' hsc
                    go_wp2_with fail
                    go_ret2
                    exact lexPost_err HR.out (lex_below hbel)
                  · have HG' : Hid (lexGo s f (k + (signAt s k).length) (acc ++ [⟨115, B (signAt s k), k⟩]) = lexS s) := by unfold Hid; rw [← lexGo_sign hlt HB.out hkE' hse]; exact HG.out
                    have hem2 : (B (signAt s k)).toList.isEmpty = false := B_ne hse
                    have hsb := signAt_fits s k hlt
                    obtain ⟨X, hX⟩ : ∃ X, X = signAt s k := ⟨_, rfl⟩
                    have hX0 : X ≠ [] := by rw [hX]; exact hse
                    rw [← hX] at hem2 hsl HG' hsb ⊢
                    clear hse hX hkE' hsc
                    go_wp2_with (first | (at_builtin; refine wpList_append_own _ rfl _ _ 99 rfl (w.heap.size + 1) 133 i0 (.agg #[.int .u8 0, .string ByteArray.empty, .int .i64 0]) 3 32 Tryz.underlyingToks hi hz0 hz1 hz2 rfl (by decide) _ _ _ rfl (hown.alloc _) ⟨wr.heap.size, 0, none⟩ 1 1 [.int .u8 115, .string (B X), .int .i64 k] rfl rfl ?c1 ?c2 ?c3 ?c4 ?c5 ?_) | go_in)
                    case c1 => exact cells3 _ _ _ _ _
                    case c2 => intro u hu; simp at hu; rcases hu with rfl | rfl | rfl <;> rfl
                    case c3 => unfold maxLen; omega
                    case c4 => omega
                    case c5 => have := hbel.size; simp at this ⊢; omega
                    intro v' w1 hown' hgrow _
                    have hb1 := grow_below hbel hown hgrow
                    have hXs := B_size X
                    have hXp : 0 < X.length := List.length_pos_iff.2 hX0
                    have HXs := hide hXs
                    clear hXs hown hgrow hbel
                    go_wp2_with fail
                    go_roundg (gk - X.length)
                    case measure => omega
                    case rel =>
                      refine ⟨k + X.length, f, _, by have := HXs.out; omega, by rw [HXs.out]; go_num, by omega, HG'.out, by simp; omega, ?_, hb1⟩
                      rw [tokCells_append]; simpa using hown'
    · have hkk : k = s.size := by omega
      have HO : Hid (lexS s = .ok acc) := by unfold Hid; rw [← HG.out]; exact lexGo_end hlt
      go_wp2_with (first | (at_builtin; refine wpList_append_own _ rfl _ _ 99 rfl (w.heap.size + 1) 133 i0 (.agg #[.int .u8 0, .string ByteArray.empty, .int .i64 0]) 3 32 Tryz.underlyingToks hi hz0 hz1 hz2 rfl (by decide) _ _ _ rfl (hown.alloc _) ⟨wr.heap.size, 0, none⟩ 1 1 [.int .u8 101, .string ByteArray.empty, .int .i64 s.size] rfl rfl ?c1 ?c2 ?c3 ?c4 ?c5 ?_) | go_in)
      case c1 => exact cells3 _ _ _ _ _
      case c2 => intro u hu; simp at hu; rcases hu with rfl | rfl | rfl <;> rfl
      case c3 => unfold maxLen; omega
      case c4 => omega
      case c5 => have := hbel.size; simp at this ⊢; omega
      intro v' w1 hown' hgrow _
      have hb1 := grow_below hbel hown hgrow
      clear hown hgrow hbel
      go_wp2_with fail
      go_ret2
      refine lexPost_ok HO.out (lex_below hb1) ?_
      rw [withEnd, tokCells_append]
      refine ownsRow_base ?_ (by omega : w.heap.size ≤ w.heap.size + 1)
      simpa using hown'
end Go.Proofs.YtodpkdajbnceoaaGreatDoor
