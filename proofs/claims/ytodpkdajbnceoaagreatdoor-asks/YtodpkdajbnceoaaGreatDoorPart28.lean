import Derived.Test.YtodpkdajbnceoaaGreatDoorPart01
import Derived.WalkMore
import Derived.Test.YtodpkdajbnceoaaGreatDoorShelf
import Derived.ScopeJumps
import Derived.Deep.MidRow
set_option linter.all false
set_option maxHeartbeats 1000000
set_option maxRecDepth 100000
namespace Go.Proofs.YtodpkdajbnceoaaGreatDoor
theorem go_bytes_toList (t : ByteArray) : t.toList = t.data.toList := ByteArray.toList_eq ..
open Go.RowKit
theorem ret_bool {a b : Bool} (h : a = b) : Ending.returned (.bool a) = .returned (.bool b) := by rw [h]
def blankB (c : Int) : Bool := c == 32 || c == 10
def digB (c : Int) : Bool := decide (48 ≤ c ∧ c ≤ 57)
def capB (c : Int) : Bool := decide (65 ≤ c ∧ c ≤ 90)
theorem blank_c (c : Int) (w : World) :
    Calls Tryz.prog 194 #[.int .u8 c] w fun e w' => e = .returned (.bool (blankB c)) ∧ w' = w := by
  go_enter Tryz.func194, Tryz.ntmps194
  go_wp2
  all_goals
    go_ret
    refine ⟨ret_bool ?_, rfl⟩
    simp_all [blankB]
theorem digit_c (c : Int) (w : World) :
    Calls Tryz.prog 237 #[.int .u8 c] w fun e w' => e = .returned (.bool (digB c)) ∧ w' = w := by
  go_enter Tryz.func237, Tryz.ntmps237
  go_wp2
  all_goals
    go_ret
    refine ⟨ret_bool ?_, rfl⟩
    simp only [digB]
    first | (simp; omega) | (rw [Bool.eq_iff_iff]; simp; omega)
theorem capital_c (c : Int) (w : World) :
    Calls Tryz.prog 238 #[.int .u8 c] w fun e w' => e = .returned (.bool (capB c)) ∧ w' = w := by
  go_enter Tryz.func238, Tryz.ntmps238
  go_wp2
  all_goals
    go_ret
    refine ⟨ret_bool ?_, rfl⟩
    simp only [capB]
    first | (simp; omega) | (rw [Bool.eq_iff_iff]; simp; omega)
def wordB (c : Int) : Bool := cls c != 0
theorem wordB_eq (c : Int) : wordB c = true ↔ ((48 ≤ c ∧ c ≤ 57) ∨ (65 ≤ c ∧ c ≤ 90) ∨ (97 ≤ c ∧ c ≤ 122) ∨ c = 95) := by
  unfold wordB cls
  constructor
  · intro h; (repeat' split at h) <;> simp at h <;> omega
  · intro h; (repeat' split) <;> simp <;> omega
theorem wordByte_c (c : Int) (w : World) :
    Calls Tryz.prog 195 #[.int .u8 c] w fun e w' => e = .returned (.bool (wordB c)) ∧ w' = w := by
  have HD := hide (digit_c c)
  have HC := hide (capital_c c)
  go_enter Tryz.func195, Tryz.ntmps195
  go_wp2_with (first | (go_at_call 237; refine (HD.out _).mono ?_; rintro e w' ⟨rfl, rfl⟩) | (go_at_call 238; refine (HC.out _).mono ?_; rintro e w' ⟨rfl, rfl⟩))
  all_goals
    go_ret
    refine ⟨ret_bool ?_, rfl⟩
    rw [Bool.eq_iff_iff, wordB_eq]
    simp only [digB, capB, Bool.or_eq_true, decide_eq_true_eq, beq_iff_eq, true_iff] at *
    omega
def faultV (g : Nat) : Value := .iface 290 (.agg #[.pointer (some ⟨g, 0, none⟩)])
def atV (er a : Int) : Obj := .cells #[.int .i64 er, .int .i64 a] 165 (0, 0)
theorem newFault_c (er a : Int) (w : World) :
    Calls Tryz.prog 154 #[.int .i64 er, .int .i64 a] w fun e w' => ∃ g, w.heap.size ≤ g ∧ e = .returned (.agg #[.pointer (some ⟨g, 0, none⟩)]) ∧ w'.heap[g]? = some (atV er a) ∧ Below w.heap.size w w' := by
  go_enter Tryz.func154, Tryz.ntmps154
  go_wp2
  refine bodyPost_ret (v := .agg #[.pointer (some ⟨w.heap.size + 1, 0, none⟩)]) (by simp [results, Tryz.results154, go_sem]) rfl ?_
  refine ⟨w.heap.size + 1, by omega, rfl, ?_, ((Below.refl _ _).alloc (Nat.le_refl _) _).alloc (by simp) _⟩
  have h := heap_alloc_new (w.alloc (.cells #[.pointer (some ⟨w.heap.size + 1, 0, none⟩)] 290)) (.cells #[.int .i64 er, .int .i64 a] 165)
  rwa [World.size_alloc] at h
def frontW (t : ByteArray) : ByteArray := t.extract 0 (wordEnd t 0)
theorem isW_wordB (c : UInt8) : isW c = wordB (c.toNat : Int) := rfl
theorem firstWord_c (t : ByteArray) (w : World) (hs : t.size ≤ 32768) :
    Calls Tryz.prog 196 #[.string t] w fun e w' => e = .returned (.string (frontW t)) ∧ Below w.heap.size w w' := by
  have HW := hide wordByte_c
  have HCl := hide (fun s w h => Tryz.stringslite_Clone s w h)
  go_enter Tryz.func196, Tryz.ntmps196
  go_wp2
  go_loop [3] (fun i => ∃ k : Nat, i = .int .i64 k ∧ k ≤ t.size ∧ wordEnd t k = wordEnd t 0) (fun i => t.size - (intOf i).toNat)
  case atStart => exact ⟨0, rfl, Nat.zero_le _, rfl⟩
  case round =>
    obtain ⟨k, rfl, hk, hwe⟩ := hrel
    by_cases hlt : k < t.size
    · by_cases hw : wordB (t[k].toNat : Int) = true
      · have hwe' : wordEnd t (k + 1) = wordEnd t 0 := by rw [wordEnd_step t k hlt (by rw [isW_wordB]; exact hw)]; exact hwe
        go_wp2_with (first | (go_at_call 195; refine (HW.out _ _).mono ?_; rintro e w' ⟨rfl, rfl⟩))
        go_round
        case rel => exact ⟨k + 1, by go_num, by omega, hwe'⟩
        case measure => simp [intOf]; omega
      · have hwe' : wordEnd t 0 = k := by rw [← hwe, wordEnd_stop t k hlt (by rw [isW_wordB]; simpa using hw)]
        go_wp2_with (first | (go_at_call 195; refine (HW.out _ _).mono ?_; rintro e w' ⟨rfl, rfl⟩) | (go_at_call 239; go_in) | (go_at_call 286; go_loud (refine (HCl.out _ _ (by simp; omega)).mono ?_; rintro e w' ⟨rfl, hB⟩)))
        go_ret
        refine ⟨?_, hB⟩
        simp [frontW, hwe']
    · have hwe' : wordEnd t 0 = k := by rw [← hwe, wordEnd_out t k hlt]
      go_wp2_with (first | (go_at_call 195; refine (HW.out _ _).mono ?_; rintro e w' ⟨rfl, rfl⟩) | (go_at_call 239; go_in) | (go_at_call 286; go_loud (refine (HCl.out _ _ (by simp; omega)).mono ?_; rintro e w' ⟨rfl, hB⟩)))
      go_ret
      refine ⟨?_, hB⟩
      simp [frontW, hwe']
def numB (l : List UInt8) : Bool := l.all (fun c => digB c.toNat) && (decide (l.length ≤ 9) && (decide ((l.headD 0).toNat ≠ 48) || decide (l = [48])))
theorem B_data (t : ByteArray) : B t.data.toList = t := by simp [B]
theorem str_eq_iff (t : ByteArray) (l : List UInt8) : (t = B l) ↔ t.data.toList = l := by
  constructor
  · rintro rfl; simp [B]
  · intro h; rw [← h, B_data]
theorem isNumber_c (t : ByteArray) (w : World) (hs : t.size ≤ 32768) (h0 : 0 < t.size) :
    Calls Tryz.prog 240 #[.string t] w fun e w' => e = .returned (.bool (numB t.data.toList)) ∧ w' = w := by
  have HD := hide digit_c
  go_enter Tryz.func240, Tryz.ntmps240
  go_wp2
  go_loop [6] (fun i => ∃ k : Nat, k ≤ t.size ∧ i = .int .i64 k ∧ (t.data.toList.take k).all (fun c => digB c.toNat) = true) (fun i => t.size - (intOf i).toNat)
  case atStart => exact ⟨0, Nat.zero_le _, rfl, rfl⟩
  case round =>
    obtain ⟨k, hk, rfl, hall⟩ := hrel
    have HA := hide hall
    clear hall
    by_cases hlt : k < t.size
    · by_cases hd : digB (t[k].toNat : Int) = true
      · have hal : (t.data.toList.take (k + 1)).all (fun c => digB c.toNat) = true := by
          rw [take_snoc t k hlt, List.all_append, HA.out]; simp [hd]
        have HA' := hide hal
        clear hal
        go_wp2_with (first | (go_at_call 237; refine (HD.out _ _).mono ?_; rintro e w' ⟨rfl, rfl⟩))
        go_round
        case rel => exact ⟨k + 1, by omega, by go_num, HA'.out⟩
        case measure => simp [intOf]; omega
      · go_wp2_with (first | (go_at_call 237; refine (HD.out _ _).mono ?_; rintro e w' ⟨rfl, rfl⟩))
        go_ret
        refine ⟨ret_bool ?_, rfl⟩
        have : t.data.toList.all (fun c => digB c.toNat) = false := by
          rw [List.all_eq_false]
          exact ⟨t[k], by show t.data[k] ∈ _; simp, by simpa using hd⟩
        rw [numB, this]; rfl
    · have hal : t.data.toList.all (fun c => digB c.toNat) = true := by
        have := HA.out; rwa [List.take_of_length_le (by simp; omega)] at this
      have HA' := hide hal
      clear hal
      have h48 := str_eq_iff t [48]
      have hhd := headD_eq t h0
      have H48 := hide h48
      have HHD := hide hhd
      clear h48 hhd
      go_wp2_with (first | (go_at_call 237; refine (HD.out _ _).mono ?_; rintro e w' ⟨rfl, rfl⟩))
      all_goals go_light
      all_goals go_ret
      all_goals refine ⟨ret_bool ?_, rfl⟩
      all_goals rw [numB, HA'.out, HHD.out]
      all_goals simp [go_bytes_toList]
      · rename_i h1 h2 _
        have a : t.size ≤ 9 := by omega
        have b : t[0].toNat = 48 := by omega
        rw [Bool.eq_iff_iff]
        simp [a, b]
      · exact ⟨by omega, .inl (by omega)⟩
      · intro h; omega
def kC (k : Int) : Int := if k = 97 then 0 else if k = 118 then 1 else if k = 110 then 2 else if k = 115 then 3 else 4
theorem numB_iff (l : List UInt8) (h : cls (l.headD 0).toNat = 100) : numB l = true ↔ wordK l = 110 := by
  have hd : 48 ≤ ((l.headD 0).toNat : Int) ∧ ((l.headD 0).toNat : Int) ≤ 57 := by
    unfold cls at h; (repeat' split at h) <;> first | omega | (exfalso; revert h; decide)
  have hnil : l ≠ [] := by rintro rfl; simp at hd
  unfold numB wordK
  rw [h]
  rw [if_neg (by simp), if_neg (by simp)]
  simp only [Bool.and_eq_true, Bool.or_eq_true, decide_eq_true_eq, List.all_eq_true, digB, ne_eq, not_true_eq_false, false_or]
  constructor
  · rintro ⟨h1, h2, h3⟩
    rw [if_neg, if_pos]
    · intro c hc; have := h1 c hc; omega
    · rintro (h4 | ⟨h4, h5⟩)
      · omega
      · rcases h3 with h3 | h3
        · exact h3 h4
        · rw [h3] at h5; simp at h5
  · intro h4
    split at h4
    · cases h4
    · rename_i h5
      split at h4
      · rename_i h6
        refine ⟨fun c hc => by have := h6 c hc; omega, by omega, ?_⟩
        by_cases h7 : (l.headD 0).toNat = 48
        · right
          match l, hnil with
          | [c], _ => simp at h7; rw [show c = 48 from UInt8.toNat_inj.1 h7]
          | c :: d :: l, _ => exact absurd (Or.inr ⟨h7, by simp⟩) h5
        · exact .inl h7
      · cases h4
theorem wordK_cases (l : List UInt8) : wordK l = 0 ∨ wordK l = 97 ∨ wordK l = 118 ∨ wordK l = 110 := by
  unfold wordK; (repeat' split) <;> simp
theorem wordK_first (l : List UInt8) (h : cls (l.headD 0).toNat ≠ 100) : wordK l = if cls (l.headD 0).toNat = 115 ∧ l.length ≤ 8 then 97 else if cls (l.headD 0).toNat = 99 ∧ l.length ≤ 8 then 118 else 0 := by
  unfold wordK; (repeat' split) <;> first | rfl | (exfalso; simp_all; done) | simp_all
theorem cls_cases (c : Int) : (cls c = 100 ↔ digB c = true) ∧ (cls c = 99 ↔ digB c = false ∧ (capB c = true ∨ c = 95)) ∧ (cls c = 115 ↔ 97 ≤ c ∧ c ≤ 122) := by
  unfold cls digB capB
  refine ⟨?_, ?_, ?_⟩ <;> (repeat' split) <;> simp <;> omega
def FaultAt (er a : Int) (w : World) (e : Ending) (w' : World) : Prop :=
  ∃ g, w.heap.size ≤ g ∧ e = .panicked [{ v := faultV g, recovered := false }] ∧ w'.heap[g]? = some (atV er a)
def WordPost (t : ByteArray) (a : Int) (w : World) (e : Ending) (w' : World) : Prop :=
  Below w.heap.size w w' ∧ if wordK t.data.toList = 0 then FaultAt 2 a w e w' else e = .returned (.int .i64 (kC (wordK t.data.toList)))
theorem WordPost.bad {t : ByteArray} {a : Int} {w w' : World} {e : Ending} (hk : wordK t.data.toList = 0) (hB : Below w.heap.size w w') (hf : FaultAt 2 a w e w') : WordPost t a w e w' :=
  ⟨hB, by rw [if_pos hk]; exact hf⟩
theorem WordPost.good {t : ByteArray} {a : Int} {w w' : World} {k : Int} (hk : wordK t.data.toList = k) (h0 : k ≠ 0) (hB : Below w.heap.size w w') : WordPost t a w (.returned (.int .i64 (kC k))) w' :=
  ⟨hB, by rw [if_neg (by rw [hk]; exact h0), hk]⟩
theorem wordKind_c (t : ByteArray) (a : Int) (w : World) (hs : t.size ≤ 32768) (h0 : 0 < t.size) (hw : wordB (t[0].toNat : Int) = true) :
    Calls Tryz.prog 197 #[.string t, .int .i64 a] w fun e w' => WordPost t a w e w' := by
  have HD := hide digit_c
  have HC := hide capital_c
  have HN := hide (fun w => isNumber_c t w hs h0)
  have HF := hide newFault_c
  have hcl := cls_cases (t[0].toNat : Int)
  have hnb := numB_iff t.data.toList
  have hwf := wordK_first t.data.toList
  have hwc := wordK_cases t.data.toList
  rw [headD_eq t h0] at hnb hwf
  have hlen : t.data.toList.length = t.size := by simp
  rw [hlen] at hwf
  by_cases hd : digB (t[0].toNat : Int) = true
  · have hc := hcl.1.2 hd
    have hnb := hnb hc
    have h97 : wordK t.data.toList ≠ 97 ∧ wordK t.data.toList ≠ 118 := by
      unfold wordK; rw [headD_eq t h0, hc]; (repeat' split) <;> simp_all
    clear hwf hcl
    by_cases hn : numB t.data.toList = true
    · have hk := hide (hnb.1 hn)
      clear hnb hwc h97
      go_enter Tryz.func197, Tryz.ntmps197
      go_wp2_with (first | (go_at_call 237; refine (HD.out _ _).mono ?_; rintro e w' ⟨rfl, rfl⟩) | (go_at_call 240; refine (HN.out _).mono ?_; rintro e w' ⟨rfl, rfl⟩))
      go_ret
      exact .good hk.out (by decide) (Below.refl _ _)
    · have hk : Hid (wordK t.data.toList = 0) := by
        rcases hwc with h | h | h | h
        · exact h
        · exact absurd h h97.1
        · exact absurd h h97.2
        · exact absurd (hnb.2 h) hn
      clear hnb hwc h97
      go_enter Tryz.func197, Tryz.ntmps197
      go_wp2_with (first | (go_at_call 237; refine (HD.out _ _).mono ?_; rintro e w' ⟨rfl, rfl⟩) | (go_at_call 240; refine (HN.out _).mono ?_; rintro e w' ⟨rfl, rfl⟩) | (go_at_call 154; refine (HF.out _ _ _).mono ?_; rintro e w' ⟨g, hg, rfl, hcell, hB⟩))
      exact ⟨rfl, .bad hk.out hB ⟨g, hg, rfl, hcell⟩⟩
  · have hwf := hwf (by rw [ne_eq, hcl.1]; exact hd)
    obtain ⟨_, hc99, hc115⟩ := hcl
    have hw' := (wordB_eq _).1 hw
    have HW' := hide hw'
    have HWF := hide hwf
    have H99 := hide hc99
    have H115 := hide hc115
    clear hnb hwc hwf hw' hc99 hc115
    by_cases h8 : (t.size : Int) ≤ 8
    · by_cases hcap : capB (t[0].toNat : Int) = true ∨ (t[0].toNat : Int) = 95
      · have hk : Hid (wordK t.data.toList = 118) := by
          have h1 := H99.out.2 ⟨by simpa using hd, hcap⟩
          rw [Hid, HWF.out, if_neg (by rw [h1]; simp), if_pos ⟨h1, by omega⟩]
        clear HWF H99 H115 HW'
        by_cases hcap1 : capB (t[0].toNat : Int) = true
        · clear hcap
          go_enter Tryz.func197, Tryz.ntmps197
          go_wp2_with (first | (go_at_call 237; refine (HD.out _ _).mono ?_; rintro e w' ⟨rfl, rfl⟩) | (go_at_call 238; refine (HC.out _ _).mono ?_; rintro e w' ⟨rfl, rfl⟩))
          go_ret
          exact .good hk.out (by decide) (Below.refl _ _)
        · have h95 : (t[0].toNat : Int) = 95 := hcap.resolve_left hcap1
          clear hcap
          go_enter Tryz.func197, Tryz.ntmps197
          go_wp2_with (first | (go_at_call 237; refine (HD.out _ _).mono ?_; rintro e w' ⟨rfl, rfl⟩) | (go_at_call 238; refine (HC.out _ _).mono ?_; rintro e w' ⟨rfl, rfl⟩))
          go_ret
          exact .good hk.out (by decide) (Below.refl _ _)
      · have hk : Hid (wordK t.data.toList = 97) := by
          have h1 := H115.out.2 (by
            have h2 := HW'.out
            simp only [digB, capB, decide_eq_true_eq] at hd hcap
            omega)
          rw [Hid, HWF.out, if_pos ⟨h1, by omega⟩]
        obtain ⟨hc1, hc2⟩ := not_or.1 hcap
        clear HWF H99 H115 HW' hcap
        go_enter Tryz.func197, Tryz.ntmps197
        go_wp2_with (first | (go_at_call 237; refine (HD.out _ _).mono ?_; rintro e w' ⟨rfl, rfl⟩) | (go_at_call 238; refine (HC.out _ _).mono ?_; rintro e w' ⟨rfl, rfl⟩))
        go_ret
        exact .good hk.out (by decide) (Below.refl _ _)
    · have hk : Hid (wordK t.data.toList = 0) := by
        rw [Hid, HWF.out, if_neg (by omega), if_neg (by omega)]
      clear HWF H99 H115 HW'
      go_enter Tryz.func197, Tryz.ntmps197
      go_wp2_with (first | (go_at_call 237; refine (HD.out _ _).mono ?_; rintro e w' ⟨rfl, rfl⟩) | (go_at_call 238; refine (HC.out _ _).mono ?_; rintro e w' ⟨rfl, rfl⟩) | (go_at_call 154; refine (HF.out _ _ _).mono ?_; rintro e w' ⟨g, hg, rfl, hcell, hB⟩))
      all_goals exact ⟨rfl, .bad hk.out hB ⟨g, hg, rfl, hcell⟩⟩
theorem pointAt_zero (t : ByteArray) (h0 : 0 < t.size) : pointAt t 0 = (decide ((t[0].toNat : Int) = 46) && (decide ((t.size : Int) = 1) || (if h : 1 < t.size then blankB (t[1].toNat : Int) else false))) := by
  have e1 : (t[0] == 46) = decide ((t[0].toNat : Int) = 46) := (u8_eq (n := 46) (by omega)).symm
  unfold pointAt
  rw [dif_pos h0, e1]
  by_cases h1 : 1 < t.size
  · have e2 : (t[1] == 32) = ((t[1].toNat : Int) == 32) := (u8_eq (n := 32) (by omega)).symm
    have e3 : (t[1] == 10) = ((t[1].toNat : Int) == 10) := (u8_eq (n := 10) (by omega)).symm
    have e4 : decide ((t.size : Int) = 1) = false := by simp; omega
    simp only [Nat.zero_add, dif_pos h1, e2, e3, blankB, e4, Bool.false_or]
  · have e4 : decide ((t.size : Int) = 1) = true := by simp; omega
    simp only [Nat.zero_add, dif_neg h1, e4, Bool.true_or]
theorem isPoint_c (t : ByteArray) (w : World) (h0 : 0 < t.size) :
    Calls Tryz.prog 198 #[.string t] w fun e w' => e = .returned (.bool (pointAt t 0)) ∧ w' = w := by
  have HB := hide blank_c
  have HP := hide (pointAt_zero t h0)
  go_enter Tryz.func198, Tryz.ntmps198
  by_cases h1 : (t.size : Int) = 1
  · go_wp2_with (first | (go_at_call 194; refine (HB.out _ _).mono ?_; rintro e w' ⟨rfl, rfl⟩))
    all_goals
      go_ret
      refine ⟨ret_bool ?_, rfl⟩
      rw [HP.out]
      simp_all
  · have h2 : 1 < t.size := by omega
    go_wp2_with (first | (go_at_call 194; refine (HB.out _ _).mono ?_; rintro e w' ⟨rfl, rfl⟩))
    all_goals
      go_ret
      refine ⟨ret_bool ?_, rfl⟩
      rw [HP.out]
      simp_all
end Go.Proofs.YtodpkdajbnceoaaGreatDoor
namespace Go.Proofs.YtodpkdajbnceoaaGreatDoor
open Go.RowKit
def restA (s : ByteArray) (k : Nat) : ByteArray := s.extract k s.size
theorem restA_size (s : ByteArray) (k : Nat) : (restA s k).size = s.size - k := by simp [restA]
theorem restA_get (s : ByteArray) (k j : Nat) (h : k + j < s.size) : (restA s k)[j]'(by rw [restA_size]; omega) = s[k + j] := by
  simp [restA, ByteArray.getElem_extract]
theorem restA_wEnd (s : ByteArray) (k : Nat) (hk : k ≤ s.size) : ∀ f j, k + wEnd (restA s k) f j = wEnd s f (k + j)
  | 0, j => rfl
  | f + 1, j => by
    rw [wEnd, wEnd]
    by_cases h : k + j < s.size
    · rw [dif_pos (by rw [restA_size]; omega), dif_pos h, restA_get s k j h]
      split
      · have := restA_wEnd s k hk f (j + 1)
        rw [this]; rfl
      · rfl
    · rw [dif_neg (by rw [restA_size]; omega), dif_neg h]
theorem restA_wordEnd (s : ByteArray) (k : Nat) (hk : k ≤ s.size) : k + wordEnd (restA s k) 0 = wordEnd s k := by
  unfold wordEnd
  rw [restA_wEnd s k hk, restA_size]
  rfl
theorem restA_front (s : ByteArray) (k : Nat) (hk : k ≤ s.size) : frontW (restA s k) = s.extract k (wordEnd s k) := by
  have h1 := restA_wordEnd s k hk
  have h2 := wordEnd_le s k hk
  unfold frontW
  generalize wordEnd (restA s k) 0 = e at *
  rw [← h1] at h2 ⊢
  unfold restA
  rw [ByteArray.extract_extract]
  congr 1
  omega
theorem restA_point (s : ByteArray) (k : Nat) (hk : k < s.size) : pointAt (restA s k) 0 = pointAt s k := by
  unfold pointAt
  rw [dif_pos (by rw [restA_size]; omega), dif_pos hk, restA_get s k 0 hk]
  by_cases h : k + 1 < s.size
  · rw [dif_pos (by rw [restA_size]; omega), dif_pos h, restA_get s k 1 h]
    rfl
  · rw [dif_neg (by rw [restA_size]; omega), dif_neg h]
    rfl
theorem hasPrefix_hasAt (s : ByteArray) (k : Nat) (hk : k ≤ s.size) (x : List UInt8) : Lib.hasPrefix (restA s k).data.toList (B x).data.toList = hasAt s k x := by
  unfold Lib.hasPrefix hasAt
  rw [Bool.eq_iff_iff, Bool.and_eq_true, decide_eq_true_eq, decide_eq_true_eq, List.isPrefixOf_iff_prefix]
  have hB : (B x).data.toList = x := by simp [B]
  rw [hB]
  have hr : (restA s k).data.toList = s.data.toList.drop k := by
    simp [restA, ByteArray.data_extract]
    exact List.take_of_length_le (by simp)
  rw [hr]
  have he : (s.extract k (k + x.length)).data.toList = (s.data.toList.drop k).take x.length := by
    simp [ByteArray.data_extract]
  rw [List.prefix_iff_eq_take]
  constructor
  · intro h
    have hl : x.length ≤ s.size - k := by
      have := congrArg List.length h
      simp at this; omega
    exact ⟨by omega, by rw [str_eq_iff, he]; exact h.symm⟩
  · rintro ⟨_, h⟩
    rw [str_eq_iff, he] at h
    exact h.symm
def tokC (l : List Tok) : List Value := l.flatMap fun t => [.int .i64 (kC t.k), .string t.t, .int .i64 t.a]
theorem tokC_append (l : List Tok) (t : Tok) : tokC (l ++ [t]) = tokC l ++ [.int .i64 (kC t.k), .string t.t, .int .i64 t.a] := by
  simp [tokC, List.flatMap_append]
def SignsIn (w : World) : Prop := w.rangeAt 1 0 signCells.toList
theorem SignsIn.below {w w' : World} {n : Nat} (h : SignsIn w) (hb : Below n w w') (hn : 1 < n) : SignsIn w' :=
  fun j v hv => (hb.cell (p := ⟨1, 0 + j, none⟩) hn).trans (h j v hv)
def SplitPost (s : ByteArray) (w : World) (e : Ending) (w' : World) : Prop :=
  Below w.heap.size w w' ∧
  match lexS s with
  | .error p => FaultAt 2 p w e w'
  | .ok l => ∃ v, e = .returned v ∧ w'.ownsRow w.heap.size 298 3 v (withEnd s l).length (tokC (withEnd s l))
theorem SplitPost.err {s : ByteArray} {w w' : World} {e : Ending} {p : Nat} (h : lexS s = .error p) (hb : Below w.heap.size w w') (hf : FaultAt 2 p w e w') : SplitPost s w e w' := by
  unfold SplitPost; rw [h]; exact ⟨hb, hf⟩
theorem SplitPost.ok {s : ByteArray} {w w' : World} {l : List Tok} {v : Value} (h : lexS s = .ok l) (hb : Below w.heap.size w w')
    (ho : w'.ownsRow w.heap.size 298 3 v (withEnd s l).length (tokC (withEnd s l))) : SplitPost s w (.returned v) w' := by
  unfold SplitPost; rw [h]; exact ⟨hb, v, rfl, ho⟩
theorem Tryz.infoTokC : (Tryz.prog.info? 298).map (fun i => (i.zero, i.size, i.bytes)) = some (some (.agg #[.int .i64 0, .string ByteArray.empty, .int .i64 0]), 3, 32) := by kernel_rfl
theorem Tryz.underlyingToksC : Tryz.prog.underlying 292 = some (.slice 298) := by kernel_rfl
theorem Tryz.underlyingSigns : Tryz.prog.underlying 351 = some (.array 23 9) := by kernel_rfl
theorem Tryz.sizeSigns : (Tryz.prog.info? 351).map (·.size) = some 23 := by kernel_rfl
theorem Tryz.infoStrC : (Tryz.prog.info? 9).map (·.size) = some 1 := by kernel_rfl
theorem sign_index (m : Nat) (x : Value) (SC : Array Value) (hm : m < 23) (hx : SC[m]? = some x) (w : World) : (Instr.index 351 (.agg SC) (.int .i64 m)).run Tryz.prog w = .ok x w := by
  have h1 : (sizeOf 9).run Tryz.prog w = .ok 1 w := by
    have h := Tryz.infoStrC
    cases hq : Tryz.prog.info? 9 with
    | none => simp [hq] at h
    | some i => simp [sizeOf, typeInfo, hq] at h ⊢; exact h
  simp [Instr.index, asIntOf, run_underlying Tryz.underlyingSigns, h1, part, hx, hm]
theorem lex_word_iff (s : ByteArray) (k : Nat) (h : k < s.size) : k < wordEnd s k ↔ wordB (s[k].toNat : Int) = true := by
  rw [← isW_wordB]
  cases hw : isW s[k] with
  | true => have := wordEnd_step s k h hw; have := wordEnd_ge s (k + 1); simp; omega
  | false => have := wordEnd_stop s k h hw; simp; omega
theorem blankB_iff (c : UInt8) : blankB (c.toNat : Int) = true ↔ (c = 32 ∨ c = 10) := by
  unfold blankB
  have h1 : ((c.toNat : Int) == 32) = (c == 32) := u8_eq (n := 32) (by omega)
  have h2 : ((c.toNat : Int) == 10) = (c == 10) := u8_eq (n := 10) (by omega)
  rw [h1, h2]
  simp
def splitRel (s : ByteArray) (w : World) (g : Nat) (v i : Value) (wr : World) : Prop :=
  ∃ (k f : Nat) (acc : List Tok), k + g = s.size ∧ i = .int .i64 k ∧ s.size - k ≤ f ∧ lexGo s f k acc = lexS s ∧ acc.length ≤ k ∧
    wr.ownsRow w.heap.size 298 3 v acc.length (tokC acc) ∧ Below w.heap.size w wr
theorem below_chain {n : Nat} {a b c : World} (h : Below n a b) (k : Below b.heap.size b c) (hn : n ≤ a.heap.size := by exact Nat.le_refl _) : Below n a c :=
  h.trans (k.mono (Nat.le_trans hn h.size))
end Go.Proofs.YtodpkdajbnceoaaGreatDoor
