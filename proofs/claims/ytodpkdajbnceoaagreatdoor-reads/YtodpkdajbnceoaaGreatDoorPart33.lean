import Derived.Test.YtodpkdajbnceoaaGreatDoorPart32
set_option linter.unusedVariables false
set_option linter.unusedSimpArgs false
namespace Go.Proofs.YtodpkdajbnceoaaGreatDoor
open Go.RowKit Go.Shelf

/-! Lists are written. -/

theorem shortL_mem : ∀ {l : List Ex}, shortL l → ∀ x, x ∈ l → short x
  | [], _, x, hx => by simp at hx
  | y :: l, h, x, hx => by
    rcases List.mem_cons.1 hx with rfl | hx
    · exact h.1
    · exact shortL_mem h.2 x hx

theorem szL_mem : ∀ {l : List Ex} {x : Ex}, x ∈ l → szE x ≤ szL l
  | [], x, hx => by simp at hx
  | y :: l, x, hx => by
    rcases List.mem_cons.1 hx with rfl | hx
    · rw [szL]; omega
    · have := szL_mem hx
      rw [szL]; omega

/-- under way in a list: what is left of it, and whether nothing is written yet -/
structure LiWr (w0 : World) (vbs : List Nat) (w : World) (wb mb : Nat) (out : List UInt8) (bv : Value) (x : Ex) (r : List UInt8 × List Nat) (gk : Nat) (y : Ex) (yv : Value) (fst : Bool) (out' : List UInt8) (bv' : Value) (sn : List Nat) (wr : World) : Prop where
  sz : gk = szE y
  on : WOn w0 vbs wr wb mb out' bv' sn
  fr : WFr wb mb bv bv' w wr
  rep : TRep wr (fun _ => True) vbs y yv
  lt : fst = false → szE y < szE x
  le : szE y ≤ szE x
  cell : fst = true → ∃ a b, y = cellEx a b
  e1 : out ++ r.1 = out' ++ (if fst then (outS y 0 sn).1 else (restS y sn).1)
  e2 : r.2 = (if fst then (outS y 0 sn).2 else (restS y sn).2)
  sh : short y
  b1 : out'.length + 2100 * szE y ≤ 300000040
  b2 : sn.length + szE y ≤ 100000
  b3 : fst = false → out'.length + 10 + 2100 * szE y ≤ 300000040

theorem LiWr.text {w0 : World} {vbs : List Nat} {w : World} {wb mb : Nat} {out : List UInt8} {bv : Value} {x : Ex} {r : List UInt8 × List Nat} {gk : Nat} {a b : Ex} {yv : Value} {fst : Bool} {out' : List UInt8} {bv' : Value} {sn : List Nat} {wr : World}
    (h : LiWr w0 vbs w wb mb out bv x r gk (cellEx a b) yv fst out' bv' sn wr) : out ++ r.1 = out' ++ [if fst then 91 else 44] ++ (outS a 0 sn).1 ++ (restS b (outS a 0 sn).2).1 ∧ r.2 = (restS b (outS a 0 sn).2).2 := by
  have e1 := h.e1
  have e2 := h.e2
  cases fst with
  | true =>
    simp only [if_true] at e1 e2
    rw [cellEx, outS_dot] at e1 e2
    exact ⟨by rw [e1]; simp, e2⟩
  | false =>
    simp only [Bool.false_eq_true, if_false] at e1 e2
    rw [cellEx, restS, if_pos rfl] at e1 e2
    exact ⟨by rw [e1]; simp, e2⟩

def betwL (f : Bool) : Value := .string (B [if f then 91 else 44])

set_option maxRecDepth 100000 in
set_option maxHeartbeats 4000000 in
theorem listW_c {w0 : World} {vbs : List Nat} (hC : WCtx w0 vbs) {x : Ex} (hA : ∀ y, szE y < szE x → short y → WrOk w0 vbs y) (hxs : short x) (hcell : ∃ a b, x = cellEx a b) {w : World} {wb mb : Nat} {out : List UInt8} {bv : Value} {seen : List Nat} {g : Nat}
    (h : WOn w0 vbs w wb mb out bv seen) (hT : TRep w (fun _ => True) vbs x (.iface 342 (ptrV g))) (hb1 : out.length + 2100 * szE x ≤ 300000040) (hb2 : seen.length + szE x ≤ 100000) :
    Calls Tryz.prog 228 #[ptrV wb, ptrV g] w fun e w' => WPost w0 vbs wb mb out bv w (outS x 0 seen) e w' := by
  obtain ⟨r, hr⟩ : ∃ r, r = outS x 0 seen := ⟨_, rfl⟩
  rw [← hr]
  have hst : LiWr w0 vbs w wb mb out bv x r (szE x) x (.iface 342 (ptrV g)) true out bv seen w := ⟨rfl, h, WFr.refl _ _ _ _, hT, fun e => (by cases e), Nat.le_refl _, fun _ => hcell, by rw [hr]; rfl, by rw [hr]; rfl, hxs, hb1, hb2, fun e => (by cases e)⟩
  have HST := hide hst
  have HA := hide hA
  have HIC := hide (fun (w : World) (g ga k cap : Nat) (n : ByteArray) (h1 : CompAt w g n ga k cap) (h2 : k ≤ maxLen) => isCell_c h1 h2)
  have HC := hide hC
  clear hst h hA hT hxs hcell hb1 hb2 hr hC
  unfold ptrV at *
  go_enter Tryz.func228, Tryz.ntmps228
  go_wp2_with fail
  go_loopg [4, 5] (szE x) (fun gk bt yv wr => ∃ y fst out' bv' sn, bt = betwL fst ∧ LiWr w0 vbs w wb mb out bv x r gk y yv fst out' bv' sn wr)
  case atStart => exact ⟨x, true, out, bv, seen, rfl, HST.out⟩
  case round =>
    obtain ⟨y, fst, out', bv', sn, rfl, hO⟩ := hrel
    have HO := hide hO
    have hrep := hO.rep
    have hlt := hO.on.wr.lt_size
    have hb1 := hO.b1
    have hb2 := hO.b2
    have hszk := hO.sz
    have hle := hO.le
    have tAC := Tryz.taAC
    have tNC := Tryz.taNC
    have tVC := Tryz.taVC
    have tCC := Tryz.taCC
    by_cases hcy : ∃ a b, y = cellEx a b
    · obtain ⟨a, b, rfl⟩ := hcy
      obtain ⟨gg, ga, cap, cur, ua, ub, rfl, hgy, hay, huy, hTa, hTb⟩ : ∃ gg ga cap cur ua ub, u5 = .iface 342 (ptrV gg) ∧ CompAt wr gg (B [46]) ga 2 cap ∧ wr.heap[ga]? = some (.cells cur 185 (0, 0)) ∧ cur.toList.take 2 = [ua, ub] ∧ TRep wr (fun _ => True) vbs a ua ∧ TRep wr (fun _ => True) vbs b ub := by
        cases hrep with
        | cmp n args gg ga cap cur us hg ho ha hc hm hs hu hr =>
        cases hr with
        | cons _ _ uy us2 hy hr2 =>
        cases hr2 with
        | cons _ _ uz us3 hz hr3 =>
        cases hr3
        exact ⟨gg, ga, cap, cur, uy, uz, rfl, hg, ha, hu, hy, hz⟩
      obtain ⟨ta, va, rfl, _⟩ := hTa.form
      obtain ⟨tb, vb, rfl, _⟩ := hTb.form
      have hgal : ga < wr.heap.size := (Array.getElem?_eq_some_iff.1 hay).1
      have hgl : gg < wr.heap.size := (Array.getElem?_eq_some_iff.1 hgy).1
      have HICg : Hid (Calls Tryz.prog 227 #[.pointer (some ⟨gg, 0, none⟩)] wr fun e w' => e = .returned (.bool true) ∧ w' = wr) := HIC.out wr gg ga 2 cap (B [46]) hgy (by unfold maxLen; omega)
      have HG0 : Hid (∀ W, TKeeps (fun _ => True) wr W → Calls Tryz.prog 281 #[.pointer (some ⟨gg, 0, none⟩), .int .i64 0] W fun e w' => e = .returned (.iface ta va) ∧ w' = W) := fun W hW =>
        arg_c (j := 0) (hW gg _ _ (.inl rfl) hgy) (by decide) (rowCell (hW ga _ _ (.inr ⟨rfl, trivial⟩) hay) huy rfl) (Array.getElem?_eq_some_iff.1 (hW ga _ _ (.inr ⟨rfl, trivial⟩) hay)).1
      have HG1 : Hid (∀ W, TKeeps (fun _ => True) wr W → Calls Tryz.prog 281 #[.pointer (some ⟨gg, 0, none⟩), .int .i64 1] W fun e w' => e = .returned (.iface tb vb) ∧ w' = W) := fun W hW =>
        arg_c (j := 1) (hW gg _ _ (.inl rfl) hgy) (by decide) (rowCell (hW ga _ _ (.inr ⟨rfl, trivial⟩) hay) huy rfl) (Array.getElem?_eq_some_iff.1 (hW ga _ _ (.inr ⟨rfl, trivial⟩) hay)).1
      have hszc : szE (cellEx a b) = 1 + szE a + szE b := by simp [cellEx, szE, szL]; omega
      have hpa := szE_pos a
      have hpb := szE_pos b
      obtain ⟨_, hsa, hsb, _⟩ : (B [46]).size ≤ 2000 ∧ short a ∧ short b ∧ True := hO.sh
      have hlen := (len_ok _ a (Nat.le_refl _) hsa).1 0 sn (by omega)
      have HTA := hide hTa
      have HTB := hide hTb
      have HON := hide hO.on
      obtain ⟨bs, hbs⟩ : ∃ bs, bs = B [if fst then 91 else 44] := ⟨_, rfl⟩
      have hbl : bs.data.toList.length = 1 := by rw [hbs]; rfl
      have hbz : bs.size = 1 := by rw [hbs, B_size]; rfl
      have hbt : betwL fst = .string bs := by rw [hbs]; rfl
      have HBS := hide hbs
      rw [hbt]
      have HB := hide (str_w hO.on bs (by omega))
      have HT := hide (fun w1 bv1 (h1 : WOn w0 vbs w1 wb mb (out' ++ bs.data.toList) bv1 sn) (f1 : WFr wb mb bv' bv1 wr w1) => HA.out a (by omega) hsa w1 wb mb _ bv1 sn (.iface ta va) h1 (HTA.out.frame (HON.out.wr.tkeeps f1) (fun _ h _ => h) (List.prefix_refl _)) (by simp only [List.length_append]; omega) (by omega))
      have HKK : Hid (∀ w1 bv1, WFr wb mb bv' bv1 wr w1 → TKeeps (fun _ => True) wr w1) := fun w1 bv1 f1 => HON.out.wr.tkeeps (Ok := fun _ => True) f1
      have HRS : Hid (∀ w1 bv1 out1 sn1, WFr wb mb bv' bv1 wr w1 → WOn w0 vbs w1 wb mb out1 bv1 sn1 → Calls Tryz.prog 182 #[.iface tb vb] w1 fun e w' => e = .returned (.iface tb vb) ∧ w' = w1) := fun w1 bv1 out1 sn1 f1 h1 =>
        resolve_c (HTB.out.frame (Ok' := fun _ => True) (HKK.out _ _ f1) (fun _ h _ => h) (List.prefix_refl _)) (h1.vbl HC.out)
      have HSB := hide hsb
      clear hO hrep hgy hay huy hTa hTb hsa hsb hbs hbt
      unfold ptrV at *
      go_upto_region 6 with (first | (go_at_call 227; refine HICg.out.mono ?_; rintro e w1 ⟨rfl, hw1⟩; subst w1) | (go_at_call 114; refine HB.out.mono ?_; rintro e w1 ⟨v1, bv1, rfl, h1, f1⟩) | (go_at_call 281; refine (HG0.out _ (HKK.out _ _ f1)).mono ?_; rintro e w2 ⟨rfl, hw2⟩; subst w2) | (go_at_call 142; refine (HT.out _ _ h1 f1).mono ?_; rintro e w2 ⟨rfl, bv2, h2, f2⟩))
      go_wp2_with (first | (go_at_call 281; refine (HG1.out _ (HKK.out _ _ (f1.trans f2))).mono ?_; rintro e w3 ⟨rfl, hw3⟩; subst w3) | (go_at_call 182; refine (HRS.out _ _ _ _ (f1.trans f2) h2).mono ?_; rintro e w3 ⟨rfl, hw3⟩; subst w3))
      go_roundg (szE b)
      case measure => omega
      case rel =>
        obtain ⟨t1, t2⟩ := HO.out.text
        refine ⟨b, false, _, bv2, _, by simp [betwL, B], rfl, h2, HO.out.fr.trans (f1.trans f2), HTB.out.frame (HKK.out _ _ (f1.trans f2)) (fun _ h _ => h) (List.prefix_refl _), fun _ => by omega, by omega, fun e => (by cases e), ?_, ?_, HSB.out, ?_, ?_, fun _ => ?_⟩
        · rw [t1, HBS.out]; simp [B]
        · rw [t2]; simp
        · simp only [List.length_append]; omega
        · omega
        · simp only [List.length_append]; omega
    · have hno : NoCell y := fun a b e => hcy ⟨a, b, e⟩
      have hf : fst = false := by
        cases fst with
        | false => rfl
        | true => exact absurd (hO.cell rfl) hcy
      subst hf
      obtain ⟨ty, vy, rfl, _⟩ := hrep.form
      have hneq : ∀ w' : World, (binOp .neq 185 (.iface ty vy) (.iface 338 (.string ⟨#[91, 93]⟩))).run Tryz.prog w' = .ok (.bool (!isNilS y)) w' := rest_neq hrep
      have e1 := hO.e1
      have e2 := hO.e2
      simp only [Bool.false_eq_true, if_false] at e1 e2
      rw [rest_no hno] at e1 e2
      have hszlt := hO.lt rfl
      have hb3 := hO.b3 rfl
      have hpy := szE_pos y
      have HSH := hide hO.sh
      have HON := hide hO.on
      have HREP := hide hrep
      have hTAS : Hid (∃ b2 v2, (∀ w', (Instr.typeAssert (.iface ty vy) 185 342 true).run Tryz.prog w' = .ok (.tuple #[v2, .bool b2]) w') ∧ (b2 = true → Calls Tryz.prog 227 #[v2] wr fun e w' => e = .returned (.bool false) ∧ w' = wr)) := by
        generalize hyv : Value.iface ty vy = yv at hrep
        cases hrep with
        | atom n => exact ⟨false, _, fun w' => tAC _ w', fun e => (by cases e)⟩
        | num v => exact ⟨false, _, fun w' => tNC _ w', fun e => (by cases e)⟩
        | var k b hk => exact ⟨false, _, fun w' => tVC _ w', fun e => (by cases e)⟩
        | cmp n args gg ga cap cur us1 hg ho ha hc hm hs hu hr =>
          refine ⟨true, _, fun w' => tCC _ w', fun _ => ?_⟩
          have := HIC.out wr gg ga args.length cap n hg (Nat.le_trans hc hm)
          rw [decide_eq_false (fun hcell => by
            obtain ⟨hn, hl2⟩ := hcell
            match args, hl2 with
            | [p, q], _ => exact hcy ⟨p, q, by rw [hn]; rfl⟩)] at this
          exact this
      obtain ⟨b2, v2, hta, hic⟩ := hTAS.out
      have HICn := hide hic
      clear hO hrep hic hTAS hcy hno tAC tNC tVC tCC
      obtain ⟨bs, hbs⟩ : ∃ bs, bs = betwL false := ⟨_, rfl⟩
      rw [← hbs]
      have hbs' : bs = .string (B [44]) := hbs
      clear hbs
      subst hbs'
      unfold ptrV at *
      have hic : Hid (b2 = true → Calls Tryz.prog 227 #[v2] wr fun e w' => e = .returned (.bool false) ∧ w' = wr) := HICn.out
      cases hnil : isNilS y with
      | true =>
        rw [hnil] at hneq e1 e2
        simp only [Bool.not_true] at hneq
        simp only [if_true] at e1 e2
        have HB3 := hide (byte_w HON.out 93 (by omega))
        have E1 := hide e1
        have E2 := hide e2
        clear e1 e2
        unfold ptrV at *
        cases b2 with
        | false =>
          go_wp2_with (first | (go_at_call 161; refine HB3.out.mono ?_; rintro e w4 ⟨v4, bv4, rfl, h4, f4⟩))
          go_end0
          exact WPost.mk' h4 (HO.out.fr.trans f4) E1.out.symm E2.out.symm
        | true =>
          go_wp2_with (first | (go_at_call 227; refine (hic.out rfl).mono ?_; rintro e w1 ⟨rfl, hw1⟩; subst w1) | (go_at_call 161; refine HB3.out.mono ?_; rintro e w4 ⟨v4, bv4, rfl, h4, f4⟩))
          go_end0
          exact WPost.mk' h4 (HO.out.fr.trans f4) E1.out.symm E2.out.symm
      | false =>
        rw [hnil] at hneq e1 e2
        simp only [Bool.not_false] at hneq
        simp only [Bool.false_eq_true, if_false] at e1 e2
        have hly := (len_ok _ y (Nat.le_refl _) HSH.out).1 0 sn (by omega)
        have HB3 := hide (byte_w HON.out 124 (by omega))
        have HT := hide (fun (w4 : World) (bv4 : Value) (h4 : WOn w0 vbs w4 wb mb (out' ++ [124]) bv4 sn) (f4 : WFr wb mb bv' bv4 wr w4) => HA.out y (by omega) HSH.out w4 wb mb _ bv4 sn (.iface ty vy) h4 (HREP.out.frame (HON.out.wr.tkeeps f4) (fun _ h _ => h) (List.prefix_refl _)) (by simp only [List.length_append, List.length_singleton]; omega) (by omega))
        have HB5 := hide (fun (w5 : World) (bv5 : Value) (sn5 : List Nat) (h5 : WOn w0 vbs w5 wb mb (out' ++ [124] ++ (outS y 0 sn).1) bv5 sn5) => byte_w h5 93 (by simp only [List.length_append, List.length_singleton]; omega))
        have E1 := hide e1
        have E2 := hide e2
        clear e1 e2
        unfold ptrV at *
        cases b2 with
        | false =>
          go_upto_region 11 with (first | (go_at_call 161; refine HB3.out.mono ?_; rintro e w4 ⟨v4, bv4, rfl, h4, f4⟩) | (go_at_call 142; refine (HT.out _ _ h4 f4).mono ?_; rintro e w5 ⟨rfl, bv5, h5, f5⟩))
          have hlt5 := h5.wr.lt_size
          go_wp2_with (first | (go_at_call 161; refine (HB5.out _ _ _ h5).mono ?_; rintro e w6 ⟨v6, bv6, rfl, h6, f6⟩))
          go_end0
          exact WPost.mk' h6 (HO.out.fr.trans (f4.trans (f5.trans f6))) (by rw [E1.out]; simp) (by rw [E2.out])
        | true =>
          go_upto_region 11 with (first | (go_at_call 227; refine (hic.out rfl).mono ?_; rintro e w1 ⟨rfl, hw1⟩; subst w1) | (go_at_call 161; refine HB3.out.mono ?_; rintro e w4 ⟨v4, bv4, rfl, h4, f4⟩) | (go_at_call 142; refine (HT.out _ _ h4 f4).mono ?_; rintro e w5 ⟨rfl, bv5, h5, f5⟩))
          have hlt5 := h5.wr.lt_size
          go_wp2_with (first | (go_at_call 161; refine (HB5.out _ _ _ h5).mono ?_; rintro e w6 ⟨v6, bv6, rfl, h6, f6⟩))
          go_end0
          exact WPost.mk' h6 (HO.out.fr.trans (f4.trans (f5.trans f6))) (by rw [E1.out]; simp) (by rw [E2.out])

end Go.Proofs.YtodpkdajbnceoaaGreatDoor

namespace Go.Proofs.YtodpkdajbnceoaaGreatDoor
open Go.RowKit Go.Shelf

/-! Names with arguments; the writer whole. -/

theorem out_plain {n : ByteArray} {args : List Ex} (hc : ¬ (n = B [46] ∧ args.length = 2)) (ho : ¬ strOf (.cmp n args) < 3) (s : List Nat) :
    outS (.cmp n args) 0 s = (n.data.toList ++ [40] ++ (rowS args true s).1 ++ [41], (rowS args true s).2) := by
  match args with
  | [] => rw [outS] <;> simp
  | [a] => rw [outS] <;> simp
  | a :: b :: c :: l => rw [outS] <;> simp
  | [a, b] =>
    have hs : strOf (.cmp n [a, b]) = ssS n := by rw [strOf]; simp
    rw [hs, ssS_pow] at ho
    have hr := powS_range n
    have hp : ¬ 0 < powS n 2 := fun h => ho (by rw [if_pos h]; omega)
    have hd : ¬ n = B [46] := fun e => hc ⟨e, rfl⟩
    rw [outS, if_neg hp, if_neg hd, rowS, rowS, rowS]
    simp

theorem op_args {n : ByteArray} {args : List Ex} (ho : strOf (.cmp n args) < 3) : (∃ a b, args = [a, b]) ∧ 0 < powS n 2 := by
  rw [strOf] at ho
  have hr := powS_range n
  split at ho
  · rename_i h2
    refine ⟨?_, ?_⟩
    · match args, h2 with
      | [a, b], _ => exact ⟨a, b, rfl⟩
    · rw [ssS_pow] at ho
      split at ho
      · assumption
      · omega
  · omega

set_option maxRecDepth 100000 in
set_option maxHeartbeats 4000000 in
theorem compound_c {w0 : World} {vbs : List Nat} (hC : WCtx w0 vbs) {n : ByteArray} {args : List Ex} (hA : ∀ y, szE y < szE (.cmp n args) → short y → WrOk w0 vbs y) (hxs : short (.cmp n args)) {w : World} {wb mb : Nat} {out : List UInt8} {bv : Value} {seen : List Nat} {g : Nat}
    (h : WOn w0 vbs w wb mb out bv seen) (hT : TRep w (fun _ => True) vbs (.cmp n args) (.iface 342 (ptrV g))) (hb1 : out.length + 2100 * szE (.cmp n args) ≤ 300000040) (hb2 : seen.length + szE (.cmp n args) ≤ 100000) :
    Calls Tryz.prog 185 #[ptrV wb, ptrV g] w fun e w' => WPost w0 vbs wb mb out bv w (outS (.cmp n args) 0 seen) e w' := by
  have HIO := hide (isOperation_c hT)
  have HT := hide hT
  have hszx : szE (.cmp n args) = 1 + szL args := by rw [szE]
  have hns : n.size ≤ 2000 := hxs.1
  have hsl : shortL args := hxs.2
  have HH := hide h
  have hlt := h.wr.lt_size
  have hal : args.length ≤ szL args := by
    clear hA hxs hT h HIO HT hb1 hb2 hszx hns hsl HH
    induction args with
    | nil => simp
    | cons a l ih => rw [szL]; have := szE_pos a; simp; omega
  obtain ⟨g', hg', ga, cap, cur, us, hg, ha, hc, hm, hs, hu, hr, hl0⟩ : ∃ g', (Value.iface 342 (ptrV g)) = (.iface 342 (ptrV g')) ∧ ∃ ga cap cur us, CompAt w g' n ga args.length cap ∧ w.heap[ga]? = some (.cells cur 185 (0, 0)) ∧ args.length ≤ cap ∧ cap ≤ maxLen ∧ cur.size = cap ∧ cur.toList.take args.length = us ∧ TRepL w (fun _ => True) vbs args us ∧ 0 < args.length := by
    generalize hv : (Value.iface 342 (ptrV g)) = v at hT
    cases hT with
    | cmp n args g' ga cap cur us hg ho ha hc hm hs hu hr hl => exact ⟨g', rfl, ga, cap, cur, us, hg, ha, hc, hm, hs, hu, hr, hl⟩
  have hgg : g = g' := by
    unfold ptrV at hg'
    injection hg' with _ hg'
    injection hg' with hg'
    injection hg' with hg'
    injection hg'
  subst hgg
  have HIC := hide (isCell_c hg (by omega))
  by_cases hcell : n = B [46] ∧ args.length = 2
  · rw [decide_eq_true hcell] at HIC
    have HL := hide (listW_c hC hA hxs (by
      obtain ⟨hn, h2⟩ := hcell
      match args, h2 with
      | [a, b], _ => exact ⟨a, b, by rw [hn]; rfl⟩) h hT hb1 hb2)
    clear hA hxs hT h hg ha hc hm hs hu hr hcell hg'
    unfold ptrV at *
    go_enter Tryz.func185, Tryz.ntmps185
    go_wp2_with (first | (go_at_call 227; refine HIC.out.mono ?_; rintro e w1 ⟨rfl, rfl⟩) | (go_at_call 228; refine HL.out.mono ?_; rintro e w2 ⟨rfl, h2⟩))
    go_end0
    exact ⟨rfl, h2⟩
  · rw [decide_eq_false hcell] at HIC
    by_cases hop : strOf (.cmp n args) < 3
    · rw [decide_eq_true hop] at HIO
      obtain ⟨⟨a, b, rfl⟩, hp⟩ := op_args hop
      have hsab : szE (.cmp n [a, b]) = 1 + szE a + szE b := by simp [szE, szL]; omega
      cases hr with
      | cons _ _ ua us2 hTa hr2 =>
      cases hr2 with
      | cons _ _ ub us3 hTb hr3 =>
      cases hr3
      have HO := hide (operation_c hC (hA a (by omega) hsl.1) (hA b (by omega) hsl.2.1) hsl.1 hsl.2.1 hns hp h hg ha hu hTa hTb (by omega) (by omega))
      clear hA hxs hT h hg ha hc hm hs hu hTa hTb hcell hop hg'
      unfold ptrV at *
      go_enter Tryz.func185, Tryz.ntmps185
      go_wp2_with (first | (go_at_call 227; refine HIC.out.mono ?_; rintro e w1 ⟨rfl, rfl⟩) | (go_at_call 229; refine HIO.out.mono ?_; rintro e w1 ⟨rfl, rfl⟩) | (go_at_call 230; refine HO.out.mono ?_; rintro e w2 ⟨rfl, h2⟩))
      go_end0
      exact ⟨rfl, h2⟩
    · rw [decide_eq_false hop] at HIO
      rw [out_plain hcell hop]
      have hrl := row_len args (fun y hy => (len_ok _ y (Nat.le_refl _) (shortL_mem hsl y hy)).1) true seen (by omega)
      obtain ⟨q, hq⟩ : ∃ q, q = rowS args true seen := ⟨_, rfl⟩
      have HS := hide (str_w (HH.out.below' (Below.refl _ _).drew) n (by omega))
      have c0 : w.drew.cell? ⟨g, 0, none⟩ = some (.string n) := by
        have := cell_of_block hg 0
        exact this
      have hgl : g < w.heap.size := (Array.getElem?_eq_some_iff.1 hg).1
      have HK : Hid (∀ w1 bv1, WFr wb mb bv bv1 w.drew w1 → TKeeps (fun _ => True) w w1) := fun w1 bv1 f1 => ((HH.out.below' (Below.refl _ _).drew).wr.tkeeps (Ok := fun _ => True) f1)
      have hnl : n.data.toList.length ≤ 2000 := hns
      have HI := hide (fun (w3 : World) (bv3 : Value) (h3 : WOn w0 vbs w3 wb mb (out ++ n.data.toList) bv3 seen) (f3 : WFr wb mb bv bv3 w.drew w3) => args_c args (fun y hy => ⟨hA y (by have := szL_mem hy; omega) (shortL_mem hsl y hy), shortL_mem hsl y hy⟩) h3 (hr.frame (HK.out _ _ f3) (fun _ h _ => h) (List.prefix_refl _)) (HK.out _ _ f3 g _ _ (.inl rfl) hg) (HK.out _ _ f3 ga _ _ (.inr ⟨rfl, trivial⟩) ha) hu hl0 (by simp only [List.length_append]; omega) (by omega) (by omega))
      rw [← hq] at HI hrl ⊢
      clear hA hxs hT h hg ha hc hm hs hu hr hcell hop hq hg'
      unfold ptrV at *
      go_enter Tryz.func185, Tryz.ntmps185
      go_wp2_with (first | (go_at_call 227; refine HIC.out.mono ?_; rintro e w1 ⟨rfl, hw1⟩; subst w1) | (go_at_call 229; refine HIO.out.mono ?_; rintro e w1 ⟨rfl, hw1⟩; subst w1))
      go_region_with (first | (go_at_call 114; refine HS.out.mono ?_; rintro e w2 ⟨v2, bv2, rfl, h2, f2⟩))
      have hlt2 := h2.wr.lt_size
      go_wp2_with (first | (go_at_call 231; refine (HI.out _ _ h2 f2).mono ?_; rintro e w4 ⟨rfl, bv4, h4, f4⟩))
      go_end0
      exact WPost.mk' h4 ((WFr.of_below (Below.refl _ _).drew).trans (f2.trans f4)) (by simp) rfl

end Go.Proofs.YtodpkdajbnceoaaGreatDoor

namespace Go.Proofs.YtodpkdajbnceoaaGreatDoor
open Go.RowKit Go.Shelf

/-! The writer whole: term.Form. -/

set_option maxRecDepth 100000 in
set_option maxHeartbeats 1000000 in
theorem term_cmp {w0 : World} {vbs : List Nat} (hC : WCtx w0 vbs) {n : ByteArray} {args : List Ex} (hA : ∀ y, szE y < szE (.cmp n args) → short y → WrOk w0 vbs y) (hxs : short (.cmp n args)) : WrOk w0 vbs (.cmp n args) := by
  intro w wb mb out bv seen u h hT hb1 hb2
  obtain ⟨g, rfl⟩ : ∃ g, u = .iface 342 (ptrV g) := by cases hT; exact ⟨_, rfl⟩
  have HBG := hide (h.begin hC hT)
  have HC := hide (fun w1 (h1 : WOn w0 vbs w1 wb mb out bv seen) (hT1 : TRep w1 (fun _ => True) vbs (.cmp n args) (.iface 342 (ptrV g))) => compound_c hC hA hxs h1 hT1 hb1 hb2)
  have HCN := hide cnt_c
  have tCA := Tryz.taCA
  have tCN := Tryz.taCN
  have tCV := Tryz.taCV
  have tCC := Tryz.taCC
  obtain ⟨dp, c3, c4, f4, hlt⟩ := h.deep
  clear h hT hA hxs hC
  unfold ptrV at *
  unfold cntV at c3
  go_enter Tryz.func142, Tryz.ntmps142
  go_wp2
  go_quiet ((go_at_call 141; exact Calls.quiet_of_same (HCN.out _ _)))
  go_upto_region 15 with (first | (go_at_call 182; refine (HBG.out _ _).2.2.2.mono ?_; rintro e w1 ⟨rfl, rfl⟩) | (go_at_call 185; refine (HC.out _ (HBG.out _ _).1 (HBG.out _ _).2.2.1).mono ?_; rintro e w1 ⟨rfl, bv1, h1, f1⟩))
  obtain ⟨dp1, _, c4', f4', hlt'⟩ := h1.deep
  have HDP := hide h1.dep
  go_wp2
  go_end0
  exact WPost.mk' (HDP.out _).1 ((HBG.out _ _).2.1.trans (f1.trans (HDP.out _).2)) rfl rfl

theorem term_all {w0 : World} {vbs : List Nat} (hC : WCtx w0 vbs) : ∀ (m : Nat) (x : Ex), szE x ≤ m → short x → WrOk w0 vbs x
  | 0, x, h, _ => by have := szE_pos x; omega
  | m + 1, .atom n, _, hs => term_atom w0 vbs hC n hs
  | m + 1, .num v, _, hs => term_num w0 vbs hC v hs.1 hs.2
  | m + 1, .var k, _, _ => term_var w0 vbs hC k
  | m + 1, .cmp n args, h, hs => term_cmp hC (fun y hy hys => term_all hC m y (by omega) hys) hs

set_option maxRecDepth 100000 in
set_option maxHeartbeats 1000000 in
theorem text_c {w : World} {wb mb n0 : Nat} {out : List UInt8} {bv : Value} {ks : List Nat} (h : WrIn w wb mb n0 out bv ks) (hn : n0 ≤ w.heap.size) (hsm : out.length ≤ 140737488355328) :
    Calls Tryz.prog 143 #[ptrV wb] w fun e w' => e = .returned (.string (B out)) ∧ Below n0 w w' := by
  have HS := hide (builderString_c h hn hsm)
  have hlt := h.lt_size
  clear h
  unfold ptrV at *
  go_enter Tryz.func143, Tryz.ntmps143
  go_wp2_with (first | (go_at_call 120; refine HS.out.mono ?_; rintro e w1 ⟨rfl, hB⟩))
  go_ret
  exact ⟨rfl, hB⟩

set_option maxRecDepth 100000 in
set_option maxHeartbeats 1000000 in
theorem form_c {w : World} {vbs : List Nat} (hC : WCtx w vbs) {x : Ex} {u : Value} (hT : TRep w (fun _ => True) vbs x u) (hx : szE x ≤ 2001) (hs : short x) :
    Calls Tryz.prog 94 #[u] w fun e w' => e = .returned (.string (B (outS x 0 []).1)) ∧ Below w.heap.size w w' := by
  have hlen := (len_ok _ x (Nat.le_refl _) hs).1 0 [] (by simp; omega)
  have hW := term_all hC _ x (Nat.le_refl _) hs
  have HN := hide (newWriter_c w)
  obtain ⟨tu, vu, rfl, _⟩ := hT.form
  have HT : Hid (∀ (w1 : World) (wb mb : Nat), WrIn w1 wb mb w.heap.size [] (.slice none 0 0) [] → Below w.heap.size w w1 → Calls Tryz.prog 142 #[ptrV wb, .iface tu vu] w1 fun e w' => WPost w vbs wb mb [] (.slice none 0 0) w1 (outS x 0 []) e w') := fun w1 wb mb h1 hB =>
    hW w1 wb mb [] _ [] _ ⟨h1, fun k hk => by simp at hk, hB⟩ (hT.frame (fun b cs T _ hb => (hB.block b (Array.getElem?_eq_some_iff.1 hb).1).trans hb) (fun _ h _ => h) (List.prefix_refl _)) (by simp; omega) (by simp; omega)
  have HX := hide (fun (w2 : World) (wb mb : Nat) (bv2 : Value) (sn : List Nat) (h2 : WOn w vbs w2 wb mb ([] ++ (outS x 0 []).1) bv2 sn) => text_c h2.wr h2.below.size (by simp only [List.nil_append]; omega))
  clear hT hW hC
  unfold ptrV at *
  go_enter Tryz.func94, Tryz.ntmps94
  go_wp2_with (first | (go_at_call 140; refine HN.out.mono ?_; rintro e w1 ⟨wb, mb, rfl, h1, hB1⟩) | (go_at_call 142; refine (HT.out _ _ _ h1 hB1).mono ?_; rintro e w2 ⟨rfl, bv2, h2, f2⟩) | (go_at_call 143; refine (HX.out _ _ _ _ _ h2).mono ?_; rintro e w3 ⟨rfl, hB3⟩))
  go_ret
  exact ⟨rfl, h2.below.trans hB3⟩

theorem tab_below {w w' : World} (ht : Lib.TabIs Tryz.prog w "internal/strconv.uint64pow10" .u64 Lib.pow10Tab) {n : Nat} (hn : 5 + 1 ≤ n) (hB : Below n w w') : Lib.TabIs Tryz.prog w' "internal/strconv.uint64pow10" .u64 Lib.pow10Tab := by
  unfold Lib.TabIs World.var? at *
  rw [show Tryz.prog.globalNamed "internal/strconv.uint64pow10" = some 2 by kernel_rfl, Option.bind_some] at *
  rw [hB.block _ (Nat.lt_of_lt_of_le (by decide) hn)]
  exact ht

theorem form_ok (s : ByteArray) (w : World) (ht : Lib.TabIs Tryz.prog w "internal/strconv.uint64pow10" .u64 Lib.pow10Tab) (hng : 5 + 1 ≤ w.heap.size) : FormOk s w := by
  intro w1 x vars u vbs hB hts hT hl hn hv
  obtain ⟨h1, h2, h3⟩ := term_got hts
  exact form_c ⟨hv, hn, fun w2 hB2 => tab_below ht hng (hB.trans (hB2.mono hB.size))⟩ hT h1 h2

end Go.Proofs.YtodpkdajbnceoaaGreatDoor
