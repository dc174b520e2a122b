import Derived.Test.YtodpkdajbnceoaaGreatDoorPart40
set_option linter.all false
set_option maxHeartbeats 2000000
set_option maxRecDepth 100000
namespace Go.Proofs.YtodpkdajbnceoaaGreatDoor
open Go.RowKit
theorem catch_faultL (p g : Nat) (w : World) (hc : w.heap[p]? = some (.cells #[.nilIface] 90 (0, 0))) :
    CallsD Tryz.prog 186 #[.pointer (some ⟨p, 0, none⟩)] (.panicking [{ v := faultV g, recovered := false }]) w fun e u' w' =>
      e = .returned (.tuple #[]) ∧ u' = .panicking [{ v := faultV g, recovered := true }] ∧ w' = (w.setCell ⟨p, 0, none⟩ (.iface 161 (ptrV g))).alloc (.cells #[ptrV g] 290) := by
  have hcc : w.cell? ⟨p, 0, none⟩ = some .nilIface := by rw [cell_of_block hc]; rfl
  have hfz := fz_of hc 0
  have hlt : p < w.heap.size := (Array.getElem?_eq_some_iff.1 hc).1
  have hcc' : ∀ o, (w.alloc o).cell? ⟨p, 0, none⟩ = some .nilIface := fun o => cell_alloc1 hcc o
  have hta := Tryz.isFault
  unfold faultV ptrV
  refine callsD_of_wpS Tryz.func186 rfl fun c₀ cs hu => ?_
  apply wpS_seq
  apply wpS_region
  simp [wpOpsS, go_sem, recoverD, hu, Tryz.ntmps186, Exit.thenS]
  refine wpS_of_wp ?_
  go_wp2
  exact ⟨rfl, _, rfl, _, results_none rfl _ _ _, rfl, rfl, rfl⟩
theorem catch_noneL (p : Nat) (w : World) :
    CallsD Tryz.prog 186 #[.pointer (some ⟨p, 0, none⟩)] .returning w fun e u' w' => e = .returned (.tuple #[]) ∧ u' = .returning ∧ w' = w := by
  refine callsD_of_wpS Tryz.func186 rfl fun c₀ cs hu => ?_
  apply wpS_seq
  apply wpS_region
  simp [wpOpsS, go_sem, recoverD, hu, Tryz.ntmps186, Exit.thenS]
  refine wpS_of_wp ?_
  go_wp2
  refine ⟨rfl, .returning, ?_, _, results_none rfl _ _ _, rfl, rfl, rfl⟩
  rw [← hu]
theorem door_faultL {fn : Func} {tmps : Array Value} {R : Ending → World → Prop} {w : World} {p g : Nat} (hc : w.heap[p]? = some (.cells #[.nilIface] 90 (0, 0)))
    (h : Leaves Tryz.prog fn tmps R [] .returning ((w.setCell ⟨p, 0, none⟩ (.iface 161 (ptrV g))).alloc (.cells #[ptrV g] 290))) :
    Leaves Tryz.prog fn tmps R [{ target := .fn (.func 186) #[.pointer (some ⟨p, 0, none⟩)], args := #[] }] (.panicking [{ v := faultV g, recovered := false }]) w := by
  refine leaves_cons (f := 186) (args := #[.pointer (some ⟨p, 0, none⟩)]) (by simp) (by simp [go_sem]) ?_
  refine (catch_faultL p g w hc).mono ?_
  rintro e u' w'' ⟨rfl, rfl, rfl⟩
  exact h
theorem door_retL {fn : Func} {tmps : Array Value} {R : Ending → World → Prop} {w : World} {p : Nat}
    (h : Leaves Tryz.prog fn tmps R [] .returning w) :
    Leaves Tryz.prog fn tmps R [{ target := .fn (.func 186) #[.pointer (some ⟨p, 0, none⟩)], args := #[] }] .returning w := by
  refine leaves_cons (f := 186) (args := #[.pointer (some ⟨p, 0, none⟩)]) (by simp) (by simp [go_sem]) ?_
  refine (catch_noneL p w).mono ?_
  rintro e u' w'' ⟨rfl, rfl, rfl⟩
  exact h
def LoadC (s : ByteArray) (w : World) (e : Ending) (w' : World) : Prop :=
  Below w.heap.size w w' ∧
  match progS s with
  | .error (er, a) => ∃ g, e = .returned (.tuple #[.slice none 0 0, .iface 161 (ptrV g)]) ∧ w'.heap[g]? = some (atV er a)
  | .ok _ => ∃ (a : Option Addr) (n c : Nat), e = .returned (.tuple #[.slice a n c, .nilIface]) ∧ ∃ rs, ClRows w' w.heap.size (.slice a n c) n rs
theorem LoadC.err {s : ByteArray} {w w4 : World} {er : Int} {a : Nat} {g : Nat} {fn : Func} (hr : progS s = .error (er, a)) (hB : Below w.heap.size w w4) (hg : w4.heap[g]? = some (atV er a)) (hc : w4.heap[w.heap.size]? = some (.cells #[.nilIface] 90 (0, 0))) (hgn : w.heap.size < g)
    {tmps : Array Value} (hfn : fn.results = #[.tmp 4, .cell 5 90]) (h4 : tmps.getD 4 undef = .slice none 0 0) (h5 : tmps.getD 5 undef = .pointer (some ⟨w.heap.size, 0, none⟩)) :
    Leaves Tryz.prog fn tmps (fun e w' => LoadC s w e w') [{ target := .fn (.func 186) #[.pointer (some ⟨w.heap.size, 0, none⟩)], args := #[] }] (.panicking [{ v := faultV g, recovered := false }]) w4 := by
  refine door_faultL hc ?_
  have hlt : w.heap.size < w4.heap.size := (Array.getElem?_eq_some_iff.1 hc).1
  have hl5 : ((w4.setCell ⟨w.heap.size, 0, none⟩ (.iface 161 (ptrV g))).alloc (.cells #[ptrV g] 290)).heap[w.heap.size]? = some (.cells #[.iface 161 (ptrV g)] 90 (0, 0)) := by
    rw [Below.heap_alloc _ _ _ (by simp [World.setCell]; omega), heap_setCell_same hc]; rfl
  have hc5 : ((w4.setCell ⟨w.heap.size, 0, none⟩ (.iface 161 (ptrV g))).alloc (.cells #[ptrV g] 290)).cell? ⟨w.heap.size, 0, none⟩ = some (.iface 161 (ptrV g)) := by rw [cell_of_block hl5]; rfl
  have h4' : tmps[4]?.getD undef = .slice none 0 0 := by simpa using h4
  have h5' : tmps[5]?.getD undef = .pointer (some ⟨w.heap.size, 0, none⟩) := by simpa using h5
  refine ⟨.tuple #[.slice none 0 0, .iface 161 (ptrV g)], ?_, ?_, ?_⟩
  · simp [results, hfn, h4', h5', go_sem, hc5]
  · exact (hB.setCell (p := ⟨w.heap.size, 0, none⟩) (Nat.le_refl _) _).alloc (by simp [World.setCell]; omega) _
  · rw [hr]
    refine ⟨g, rfl, ?_⟩
    rw [Below.heap_alloc _ _ _ (by have := (Array.getElem?_eq_some_iff.1 hg).1; simp [World.setCell]; omega), Below.heap_setCell _ _ _ _ (show g ≠ w.heap.size by omega)]
    exact hg
theorem readingL_long_c (s : ByteArray) (w : World) (hs : 2000 < s.size) (hs2 : s.size ≤ 32768) :
    Calls Tryz.prog 144 #[.string s, .func (.func 145) #[] #[]] w fun e w' => LoadC s w e w' := by
  have hmf : ∀ (fn : Fn) (first cap : Array Value) (w : World), (Instr.makeFunc fn first cap).run Tryz.prog w = .ok (.func fn first cap) w := fun _ _ _ _ => rfl
  have HF := hide newFault_c
  have HR : Hid (progS s = .error (1, 0)) := by unfold Hid progS; rw [if_pos hs]
  go_enter_defers Tryz.func144, Tryz.ntmps144
  go_wp2_with (first | (go_at_call 154; refine (HF.out _ _ _).mono ?_; rintro e w2 ⟨g, hg2, rfl, hcell, hB⟩))
  have hb0 := boxed hB
  exact LoadC.err HR.out (below_box hB) hcell hb0 (by simp at hg2; omega) rfl rfl rfl
theorem readingL_end {s : ByteArray} {w w9 : World} {l : List Cl} {a : Option Addr} {n c : Nat} {fn : Func} {tmps : Array Value} {o : Obj} (hr : progS s = .ok l) (hB : Below w.heap.size w w9) (hbx : w9.heap[w.heap.size]? = some (.cells #[.nilIface] 90 (0, 0))) (hrs : ∃ rs, ClRows w9 w.heap.size (.slice a n c) n rs)
    (hfn : fn.results = #[.tmp 4, .cell 5 90]) (h4 : tmps.getD 4 undef = .slice a n c) (h5 : tmps.getD 5 undef = .pointer (some ⟨w.heap.size, 0, none⟩)) :
    Leaves Tryz.prog fn tmps (fun e w' => LoadC s w e w') [] .returning ((w9.setCell ⟨w.heap.size, 0, none⟩ .nilIface).alloc o).drew := by
  have hlt : w.heap.size < w9.heap.size := (Array.getElem?_eq_some_iff.1 hbx).1
  have hl5 : ((w9.setCell ⟨w.heap.size, 0, none⟩ .nilIface).alloc o).drew.heap[w.heap.size]? = some (.cells #[.nilIface] 90 (0, 0)) := by
    show ((w9.setCell ⟨w.heap.size, 0, none⟩ .nilIface).alloc o).heap[w.heap.size]? = _
    rw [Below.heap_alloc _ _ _ (by simp [World.setCell]; omega), heap_setCell_same hbx]; rfl
  have hc5 : ((w9.setCell ⟨w.heap.size, 0, none⟩ .nilIface).alloc o).drew.cell? ⟨w.heap.size, 0, none⟩ = some .nilIface := by rw [cell_of_block hl5]; rfl
  have h4' : tmps[4]?.getD undef = .slice a n c := by simpa using h4
  have h5' : tmps[5]?.getD undef = .pointer (some ⟨w.heap.size, 0, none⟩) := by simpa using h5
  generalize hW : ((w9.setCell ⟨w.heap.size, 0, none⟩ .nilIface).alloc o).drew = W at *
  refine ⟨.tuple #[.slice a n c, .nilIface], ?_, ?_, ?_⟩
  · simp [results, hfn, h4', h5', go_sem, hc5]
  · rw [← hW]; exact ((hB.setCell (p := ⟨w.heap.size, 0, none⟩) (Nat.le_refl _) _).alloc (by simp [World.setCell]; omega) _).drew
  · rw [hr]
    obtain ⟨rs, q1, q2⟩ := hrs
    refine ⟨_, _, _, rfl, rs, ?_, q2⟩
    rw [← hW]
    refine ownsRow_keep q1 fun b e => ?_
    have hb := q1.lt b e
    have hne : b ≠ w.heap.size := fun q => by
      rcases q1.2 with ⟨q3, _⟩ | ⟨g, cap, cur, q3, _, q4, _⟩
      · rw [q3] at e; cases e
      · rw [q3] at e
        have hgb : g = b := Option.some.inj e
        rw [hgb, q, hbx] at q4
        injection q4 with q4; injection q4 with _ q4; cases q4
    show ((w9.setCell ⟨w.heap.size, 0, none⟩ .nilIface).alloc o).heap[b]? = _
    rw [Below.heap_alloc _ _ _ (by simp [World.setCell]; omega), Below.heap_setCell _ _ _ _ hne]
theorem readingL_c (s : ByteArray) (w : World) (hs : s.size ≤ 2000) (hsg : SignsIn w) (hng : 1 < w.heap.size) :
    Calls Tryz.prog 144 #[.string s, .func (.func 145) #[] #[]] w fun e w' => LoadC s w e w' := by
  have hmf : ∀ (fn : Fn) (first cap : Array Value) (w : World), (Instr.makeFunc fn first cap).run Tryz.prog w = .ok (.func fn first cap) w := fun _ _ _ _ => rfl
  have HS := hide (fun (w' : World) (h1 : SignsIn w') (h2 : 1 < w'.heap.size) => split_s s w' hs h1 h2)
  have ff0 := tok_f0
  have hsa := hide (fun o => hsg.allocS hng o)
  cases hl : lexS s with
  | error p =>
    have HR : Hid (progS s = .error (2, p)) := by unfold Hid progS; rw [if_neg (by omega), hl]
    have HS' : Hid (∀ w', SignsIn w' → 1 < w'.heap.size → Calls Tryz.prog 155 #[.string s] w' fun e w'' => Below w'.heap.size w' w'' ∧ FaultAt 2 p w' e w'') := fun w' h1 h2 => (HS.out w' h1 h2).mono fun e w'' h => by unfold SplitPost at h; rw [hl] at h; exact h
    clear HS hl
    go_enter_defers Tryz.func144, Tryz.ntmps144
    go_wp2_with (first | (go_at_call 155; refine (HS'.out _ (hsa.out _) (by simp; omega)).mono ?_; rintro e w2 ⟨hB, g, hg2, rfl, hcell⟩))
    exact LoadC.err HR.out (below_box hB) hcell (boxed hB) (by simp at hg2; omega) rfl rfl rfl
  | ok l =>
    obtain ⟨toks, htk⟩ : ∃ toks, toks = withEnd s l := ⟨_, rfl⟩
    have hg := good_toks hs hl
    have ht := tts_of hl
    have hn : ∀ i, (tk (withEnd s l) i).t.size ≤ 2000 := fun i => by
      have hl' := lex_names s.size 0 [] l hl (by simp)
      unfold tk
      rw [List.getD_eq_getElem?_getD]
      cases q : (withEnd s l)[i]? with
      | none => simp
      | some t =>
        simp only [Option.getD_some]
        have hm := List.mem_of_getElem? q
        unfold withEnd at hm
        rcases List.mem_append.1 hm with hm | hm
        · have := hl' t hm; omega
        · have := List.mem_singleton.1 hm; subst this; simp
    rw [← htk] at hg ht hn
    have HS' : Hid (∀ w', SignsIn w' → 1 < w'.heap.size → Calls Tryz.prog 155 #[.string s] w' fun e w'' => Below w'.heap.size w' w'' ∧ ∃ v, e = .returned v ∧ w''.ownsRow w'.heap.size 298 3 v toks.length (tokC toks)) := fun w' h1 h2 => (HS.out w' h1 h2).mono fun e w'' h => by unfold SplitPost at h; rw [hl] at h; rw [htk]; exact h
    have HA : AsCallOk := fun w vbs x u Ok h1 h2 => asCall_c h1 h2
    have hex := expr_at_c hg ht hn
    have HE := hide (program_c hg ht (fun w bp lv vv st vbs h => clause_c hg ht (expr_got (prim_got hg hn 8) hn) hex HA (body_at_c hg ht hn HA) w bp lv vv st vbs h))
    obtain ⟨total, htot⟩ : ∃ t, progOf toks (clauseOf toks (exprS toks 8) (bodyS toks 8)) 41 [] 0 = t := ⟨_, rfl⟩
    have hts : progS s = total := by unfold progS; rw [if_neg (by omega), hl]; dsimp only; rw [← htk]; exact htot
    have HE2 : Hid (∀ (w' : World) (bp : Nat) (lv : Value), RIn w' bp toks lv (.slice none 0 0) 0 0 [] [] → Calls Tryz.prog 145 #[ptrV bp] w' fun e w'' => PgP toks bp lv w' total e w'') := fun w' bp lv h' => by rw [← htot]; exact HE.out w' bp lv h'
    clear HS hl htk HE hex HA htot
    cases total with
    | error p =>
      obtain ⟨er, a⟩ := p
      have HR : Hid (progS s = .error (er, a)) := hts
      have HE' : Hid (∀ (w' : World) (bp : Nat) (lv : Value), RIn w' bp toks lv (.slice none 0 0) 0 0 [] [] → Calls Tryz.prog 145 #[ptrV bp] w' fun e w'' => RFault er a bp lv (.slice none 0 0) 0 w' e w'') := HE2.out
      clear HE2 hts
      unfold ptrV at *
      go_enter_defers Tryz.func144, Tryz.ntmps144
      go_wp2_with (first | (go_at_call 155; refine (HS'.out _ (hsa.out _) (by simp; omega)).mono ?_; rintro e w2 ⟨hB, v, rfl, hown⟩; have hR := RIn.start hown hg.pos; obtain ⟨ao, cp, hvf⟩ := row_form hown; subst hvf) | (go_at_call 145; refine (HE'.out _ _ _ hR).mono ?_; rintro e w9 hF; have hF' := hF; obtain ⟨g, vv', i', h1, rfl, h3, h4, h5⟩ := hF))
      have hz := hB.size
      simp at hz
      have hbx := boxed hB
      have hB2 : Below w.heap.size w w2 := below_box hB
      have hFb : Below (w.heap.size + 1) (w2.alloc _) w9 := h4.toBelow (n := w.heap.size + 1) (by simp; omega) (by omega) (fun k e => by cases e)
      refine LoadC.err HR.out ((hB2.alloc (by omega) _).trans (hFb.mono (by omega))) h3 ?_ (by simp at h1; omega) rfl rfl rfl
      rw [hFb.block _ (by omega), Below.heap_alloc _ _ _ (by omega)]
      exact hbx
    | ok cls =>
      have HR : Hid (progS s = .ok cls) := hts
      have HE' : Hid (∀ (w' : World) (bp : Nat) (lv : Value), RIn w' bp toks lv (.slice none 0 0) 0 0 [] [] → Calls Tryz.prog 145 #[ptrV bp] w' fun e w'' => ∃ (a : Option Addr) (n c : Nat) (vv' : Value) (st' : St) (vbs' : List Nat), e = .returned (.slice a n c) ∧ RIn w'' bp toks lv vv' st'.1 0 st'.2 vbs' ∧ (tk toks st'.1).k = 101 ∧ Fr bp (.slice none 0 0) vv' w' w'' ∧ ∃ rs, ClRows w'' w'.heap.size (.slice a n c) n rs) := HE2.out
      have HN : Hid (∀ (w' : World) (bp : Nat) (lv vv' : Value) (st : St) (vbs' : List Nat), RIn w' bp toks lv vv' st.1 0 st.2 vbs' → (tk toks st.1).k = 101 → Calls Tryz.prog 156 #[ptrV bp] w' fun e w'' => ∃ (tt : ByteArray) (aa : Nat), e = .returned (.agg #[.int .i64 4, .string tt, .int .i64 aa]) ∧ w'' = (w'.alloc (.cells #[.int .i64 4, .string tt, .int .i64 aa] 298)).drew) := fun w' bp lv vv' st vbs' h' hk => (now_c h' hg).mono fun e w'' hh => by
        have hk4 : kC (tk toks st.1).k = 4 := (ht st.1).kC_end.2 hk
        unfold tokVC tokB at hh
        rw [hk4] at hh
        exact ⟨_, _, hh.1, hh.2⟩
      have HBX := hide (fun (w2 : World) (h : Below (w.alloc (.cells #[.nilIface] 90)).heap.size (w.alloc (.cells #[.nilIface] 90)) w2) (v vv' : Value) (w9 : World) (h4 : Fr w2.heap.size (.slice none 0 0) vv' (w2.alloc (.cells #[v, .int .i64 0, .int .i64 0, .slice none 0 0] 295)) w9) => readBox h v vv' h4)
      clear HE2 hts
      unfold ptrV at *
      go_enter_defers Tryz.func144, Tryz.ntmps144
      go_wp2_with (first | (go_at_call 155; refine (HS'.out _ (hsa.out _) (by simp; omega)).mono ?_; rintro e w2 ⟨hB, v, rfl, hown⟩; have hR := RIn.start hown hg.pos; obtain ⟨ao, cp, hvf⟩ := row_form hown; subst hvf) | (go_at_call 145; refine (HE'.out _ _ _ hR).mono ?_; rintro e w9 ⟨a9, n9, c9, vv9, st9, vbs9, rfl, r2, k9, r4, hrs9⟩; obtain ⟨hBw, hbx⟩ := HBX.out w2 hB _ _ w9 r4; have hbc : ∀ o, (w9.alloc o).cell? ⟨w.heap.size, 0, none⟩ = some .nilIface := cell_alloc1 (by rw [cell_of_block hbx]; rfl); have hbf : ∀ o, (w9.alloc o).frozen? ⟨w.heap.size, 0, none⟩ = false := fun o => fz_alloc hbx o 0; have hbl : w.heap.size < w9.heap.size := (Array.getElem?_eq_some_iff.1 hbx).1) | (go_at_call 156; refine (HN.out _ _ _ _ _ _ r2 k9).mono ?_; rintro e w10 ⟨tt, aa, rfl, rfl⟩))
      refine door_retL (readingL_end HR.out hBw hbx ?_ rfl rfl rfl)
      obtain ⟨rs, q1, q2⟩ := hrs9
      refine ⟨rs, ?_, q2⟩
      exact ownsRow_base q1 (by have := hB.size; simp at this ⊢; omega)
theorem syntaxProgram_c (s : ByteArray) (w : World) (hs : s.size ≤ 32768) (hsg : SignsIn w) (hng : 1 < w.heap.size) :
    Calls Tryz.prog 95 #[.string s] w fun e w' => LoadC s w e w' := by
  have HRd : Hid (Calls Tryz.prog 144 #[.string s, .func (.func 145) #[] #[]] w fun e w' => LoadC s w e w') := by
    by_cases h : s.size ≤ 2000
    · exact readingL_c s w h hsg hng
    · exact readingL_long_c s w (by omega) hs
  cases hr : progS s with
  | error p =>
    obtain ⟨er, a⟩ := p
    have HRd' : Hid (Calls Tryz.prog 144 #[.string s, .func (.func 145) #[] #[]] w fun e w' => Below w.heap.size w w' ∧ ∃ g, e = .returned (.tuple #[.slice none 0 0, .iface 161 (ptrV g)]) ∧ w'.heap[g]? = some (atV er a)) := HRd.out.mono fun e w' h => by unfold LoadC at h; rw [hr] at h; exact h
    have HR := hide hr
    clear HRd hr
    go_enter Tryz.func95, Tryz.ntmps95
    go_wp2_with (first | (go_at_call 144; refine HRd'.out.mono ?_; rintro e w1 ⟨hB, g, rfl, hc⟩))
    go_ret2
    exact ⟨hB, by rw [HR.out]; exact ⟨g, rfl, hc⟩⟩
  | ok l =>
    have HRd' : Hid (Calls Tryz.prog 144 #[.string s, .func (.func 145) #[] #[]] w fun e w' => Below w.heap.size w w' ∧ ∃ (a : Option Addr) (n c : Nat), e = .returned (.tuple #[.slice a n c, .nilIface]) ∧ ∃ rs, ClRows w' w.heap.size (.slice a n c) n rs) := HRd.out.mono fun e w' h => by unfold LoadC at h; rw [hr] at h; exact h
    have HR := hide hr
    clear HRd hr
    go_enter Tryz.func95, Tryz.ntmps95
    go_wp2_with (first | (go_at_call 144; refine HRd'.out.mono ?_; rintro e w1 ⟨hB, a, n, c, rfl, hrs⟩))
    go_ret2
    exact ⟨hB, by rw [HR.out]; exact ⟨a, n, c, rfl, hrs⟩⟩
def questR (toks : List Tok) (body : St → R Bd) (st : St) : R Bd :=
  match body st with
  | .error e => .error e
  | .ok (b, s) => mustT toks [46] b s
theorem questR_end (toks : List Tok) (body : St → R Bd) (st : St) : questEnd toks (body st) = match questR toks body st with
    | .error e => .error e
    | .ok (x, s) => if (tk toks s.1).k = 101 then .ok (x, s.2) else .error (2, (tk toks s.1).a) := by
  unfold questEnd questR mustT
  cases body st with
  | error e => rfl
  | ok p =>
    dsimp only
    split <;> rfl
def QsP (toks : List Tok) (bp : Nat) (lv vv : Value) (d : Int) (w : World) (r : R Bd) (e : Ending) (w' : World) : Prop :=
  match r with
  | .error (er, a) => RFault er a bp lv vv d w e w'
  | .ok (_, st) => ∃ (pb : Nat) (tb : TypeId) (vb vv' : Value) (vbs' : List Nat), e = .returned (.pointer (some ⟨pb, 0, none⟩)) ∧ RIn w' bp toks lv vv' st.1 d st.2 vbs' ∧ Fr bp vv vv' w w' ∧ w'.heap[pb]? = some (.cells #[.iface tb vb, vv'] 236 (0, 0))
def QIn (w : World) (p : Nat) : Prop :=
  ∃ (tb : TypeId) (vb vv : Value) (vbs : List Nat), w.heap[p]? = some (.cells #[.iface tb vb, vv] 236 (0, 0)) ∧ w.ownsRow 0 267 1 vv vbs.length (vbs.map ptrV) ∧ vbs.length ≤ 12 ∧ ∀ (k b : Nat), vbs[k]? = some b → ∃ n, w.heap[b]? = some (.cells #[.string n, .int .i64 k, .nilIface, .int .i64 0] 269 (0, 0))
theorem QIn.of {w : World} {bp pb : Nat} {toks : List Tok} {lv vv : Value} {i : Nat} {d : Int} {vars : List ByteArray} {vbs : List Nat} {tb : TypeId} {vb : Value} (h : RIn w bp toks lv vv i d vars vbs) (hp : w.heap[pb]? = some (.cells #[.iface tb vb, vv] 236 (0, 0))) : QIn w pb :=
  ⟨tb, vb, vv, vbs, hp, h.vrow, by rw [h.vl]; exact h.v12, fun k b hk => by
    obtain ⟨n, _, q⟩ := h.vblk k b hk
    exact ⟨n, q⟩⟩
theorem QIn.keep {w w' : World} {p : Nat} (h : QIn w p) (hk : ∀ (b : Nat) (cs : Array Value) (T : TypeId), w.heap[b]? = some (.cells cs T (0, 0)) → (T = 236 ∨ T = 267 ∨ T = 269) → w'.heap[b]? = w.heap[b]?) : QIn w' p := by
  obtain ⟨tb, vb, vv, vbs, h1, h2, h3, h4⟩ := h
  refine ⟨tb, vb, vv, vbs, (hk p _ _ h1 (.inl rfl)).trans h1, ?_, h3, fun k b hb => ?_⟩
  · refine own_keep h2 fun b e => ?_
    rcases h2.2 with ⟨q, _⟩ | ⟨g, cap, cur, q, _, q4, _⟩
    · rw [q] at e; cases e
    · rw [q] at e
      have hg : g = b := Option.some.inj e
      subst hg
      exact hk g _ _ q4 (.inr (.inl rfl))
  · obtain ⟨n, q⟩ := h4 k b hb
    exact ⟨n, (hk b _ _ q (.inr (.inr rfl))).trans q⟩
theorem QIn.below {w w' : World} {p : Nat} (h : QIn w p) (hB : Below w.heap.size w w') : QIn w' p := h.keep fun b _ _ q _ => hB.block b (Array.getElem?_eq_some_iff.1 q).1
theorem question_c {toks : List Tok} {d : Int} (hg : GoodToks toks) (ht : TTs toks) {body : St → R Bd} (HB : GReads 158 toks d body) (w : World) (bp : Nat) (lv vv : Value) (st : St) (vbs : List Nat) (h : RIn w bp toks lv vv st.1 d st.2 vbs) :
    Calls Tryz.prog 111 #[ptrV bp] w fun e w' => QsP toks bp lv vv d w (questR toks body st) e w' := by
  have HB' := hide HB
  clear HB
  cases hr : body st with
  | error p =>
    obtain ⟨er, a⟩ := p
    have HR : Hid (questR toks body st = .error (er, a)) := by unfold Hid questR; rw [hr]
    have H1 := hide (HB'.out.err hr h)
    rw [HR.out]
    clear hr HB'
    unfold ptrV
    go_enter Tryz.func111, Tryz.ntmps111
    go_wp2_with fail
    refine H1.out.mono ?_
    rintro e w3 hF
    have hF' := hF
    obtain ⟨g, vv', i', h1, rfl, h3⟩ := hF
    exact ⟨rfl, hF'⟩
  | ok p =>
    obtain ⟨b, s⟩ := p
    have H1 := hide (HB'.out.ok hr h)
    have hi := ht.is s.1 (s := [46]) (by unfold SignLike; decide)
    by_cases hq : (tk toks s.1).t = B [46]
    · have HR : Hid (questR toks body st = .ok (b, (s.1 + 1, s.2))) := by unfold Hid questR mustT; rw [hr]; dsimp only; rw [hi, decide_eq_true hq, if_pos rfl]
      have HM := hide (fun (w' : World) (vv' : Value) (vbs' : List Nat) (h' : RIn w' bp toks lv vv' s.1 d s.2 vbs') => must_y h' hg ht (s := [46]) (by simp) hq)
      rw [HR.out]
      clear hr HB' hi hq
      unfold ptrV at *
      go_enter Tryz.func111, Tryz.ntmps111
      go_wp2_with fail
      refine H1.out.mono ?_
      rintro e w3 ⟨t3, v3, vv3, vbs3, rfl, r3, p3, f3⟩
      go_wp2_with fail
      refine (HM.out _ _ _ r3).mono ?_
      rintro e w4 ⟨rfl, r4, f4⟩
      have c3 := r4.c3
      have hz := r4.lt_size
      obtain ⟨vo, vc, hvv⟩ := row_form r4.vrow
      have HV := hide hvv
      rw [hvv] at c3
      clear hvv
      go_wp2_with fail
      go_ret
      exact ⟨_, _, _, vv3, vbs3, rfl, r4.alloc _, (f3.trans f4).alloc _, by rw [HV.out]; exact heap_alloc_new _ _⟩
    · have HR : Hid (questR toks body st = .error (2, (tk toks s.1).a)) := by unfold Hid questR mustT; rw [hr]; dsimp only; rw [hi, decide_eq_false hq, if_neg (by simp)]
      have HM := hide (fun (w' : World) (vv' : Value) (vbs' : List Nat) (h' : RIn w' bp toks lv vv' s.1 d s.2 vbs') => must_n h' hg ht (s := [46]) hq)
      rw [HR.out]
      clear hr HB' hi hq
      unfold ptrV at *
      go_enter Tryz.func111, Tryz.ntmps111
      go_wp2_with fail
      refine H1.out.mono ?_
      rintro e w3 ⟨t3, v3, vv3, vbs3, rfl, r3, p3, f3⟩
      go_wp2_with fail
      refine (HM.out _ _ _ r3).mono ?_
      rintro e w4 hF
      have hF' := hF
      obtain ⟨g, vv', i', h1, rfl, h3⟩ := hF
      exact ⟨rfl, hF'.after f3⟩
theorem catch_faultQ (p g : Nat) (w : World) (hc : w.heap[p]? = some (.cells #[.nilIface] 90 (0, 0))) :
    CallsD Tryz.prog 153 #[.pointer (some ⟨p, 0, none⟩)] (.panicking [{ v := faultV g, recovered := false }]) w fun e u' w' =>
      e = .returned (.tuple #[]) ∧ u' = .panicking [{ v := faultV g, recovered := true }] ∧ w' = (w.setCell ⟨p, 0, none⟩ (.iface 161 (ptrV g))).alloc (.cells #[ptrV g] 290) := by
  have hcc : w.cell? ⟨p, 0, none⟩ = some .nilIface := by rw [cell_of_block hc]; rfl
  have hfz := fz_of hc 0
  have hlt : p < w.heap.size := (Array.getElem?_eq_some_iff.1 hc).1
  have hcc' : ∀ o, (w.alloc o).cell? ⟨p, 0, none⟩ = some .nilIface := fun o => cell_alloc1 hcc o
  have hta := Tryz.isFault
  unfold faultV ptrV
  refine callsD_of_wpS Tryz.func153 rfl fun c₀ cs hu => ?_
  apply wpS_seq
  apply wpS_region
  simp [wpOpsS, go_sem, recoverD, hu, Tryz.ntmps153, Exit.thenS]
  refine wpS_of_wp ?_
  go_wp2
  exact ⟨rfl, _, rfl, _, results_none rfl _ _ _, rfl, rfl, rfl⟩
theorem catch_noneQ (p : Nat) (w : World) :
    CallsD Tryz.prog 153 #[.pointer (some ⟨p, 0, none⟩)] .returning w fun e u' w' => e = .returned (.tuple #[]) ∧ u' = .returning ∧ w' = w := by
  refine callsD_of_wpS Tryz.func153 rfl fun c₀ cs hu => ?_
  apply wpS_seq
  apply wpS_region
  simp [wpOpsS, go_sem, recoverD, hu, Tryz.ntmps153, Exit.thenS]
  refine wpS_of_wp ?_
  go_wp2
  refine ⟨rfl, .returning, ?_, _, results_none rfl _ _ _, rfl, rfl, rfl⟩
  rw [← hu]
theorem door_faultQ {fn : Func} {tmps : Array Value} {R : Ending → World → Prop} {w : World} {p g : Nat} (hc : w.heap[p]? = some (.cells #[.nilIface] 90 (0, 0)))
    (h : Leaves Tryz.prog fn tmps R [] .returning ((w.setCell ⟨p, 0, none⟩ (.iface 161 (ptrV g))).alloc (.cells #[ptrV g] 290))) :
    Leaves Tryz.prog fn tmps R [{ target := .fn (.func 153) #[.pointer (some ⟨p, 0, none⟩)], args := #[] }] (.panicking [{ v := faultV g, recovered := false }]) w := by
  refine leaves_cons (f := 153) (args := #[.pointer (some ⟨p, 0, none⟩)]) (by simp) (by simp [go_sem]) ?_
  refine (catch_faultQ p g w hc).mono ?_
  rintro e u' w'' ⟨rfl, rfl, rfl⟩
  exact h
theorem door_retQ {fn : Func} {tmps : Array Value} {R : Ending → World → Prop} {w : World} {p : Nat}
    (h : Leaves Tryz.prog fn tmps R [] .returning w) :
    Leaves Tryz.prog fn tmps R [{ target := .fn (.func 153) #[.pointer (some ⟨p, 0, none⟩)], args := #[] }] .returning w := by
  refine leaves_cons (f := 153) (args := #[.pointer (some ⟨p, 0, none⟩)]) (by simp) (by simp [go_sem]) ?_
  refine (catch_noneQ p w).mono ?_
  rintro e u' w'' ⟨rfl, rfl, rfl⟩
  exact h
def AskC (s : ByteArray) (w : World) (e : Ending) (w' : World) : Prop :=
  Below w.heap.size w w' ∧
  match questS s with
  | .error (er, a) => ∃ g, e = .returned (.tuple #[.pointer none, .iface 161 (ptrV g)]) ∧ w'.heap[g]? = some (atV er a)
  | .ok _ => ∃ p : Nat, e = .returned (.tuple #[.pointer (some ⟨p, 0, none⟩), .nilIface]) ∧ QIn w' p
theorem AskC.err {s : ByteArray} {w w4 : World} {er : Int} {a : Nat} {g : Nat} {fn : Func} (hr : questS s = .error (er, a)) (hB : Below w.heap.size w w4) (hg : w4.heap[g]? = some (atV er a)) (hc : w4.heap[w.heap.size]? = some (.cells #[.nilIface] 90 (0, 0))) (hgn : w.heap.size < g)
    {tmps : Array Value} (hfn : fn.results = #[.tmp 4, .cell 5 90]) (h4 : tmps.getD 4 undef = .pointer none) (h5 : tmps.getD 5 undef = .pointer (some ⟨w.heap.size, 0, none⟩)) :
    Leaves Tryz.prog fn tmps (fun e w' => AskC s w e w') [{ target := .fn (.func 153) #[.pointer (some ⟨w.heap.size, 0, none⟩)], args := #[] }] (.panicking [{ v := faultV g, recovered := false }]) w4 := by
  refine door_faultQ hc ?_
  have hlt : w.heap.size < w4.heap.size := (Array.getElem?_eq_some_iff.1 hc).1
  have hl5 : ((w4.setCell ⟨w.heap.size, 0, none⟩ (.iface 161 (ptrV g))).alloc (.cells #[ptrV g] 290)).heap[w.heap.size]? = some (.cells #[.iface 161 (ptrV g)] 90 (0, 0)) := by
    rw [Below.heap_alloc _ _ _ (by simp [World.setCell]; omega), heap_setCell_same hc]; rfl
  have hc5 : ((w4.setCell ⟨w.heap.size, 0, none⟩ (.iface 161 (ptrV g))).alloc (.cells #[ptrV g] 290)).cell? ⟨w.heap.size, 0, none⟩ = some (.iface 161 (ptrV g)) := by rw [cell_of_block hl5]; rfl
  have h4' : tmps[4]?.getD undef = .pointer none := by simpa using h4
  have h5' : tmps[5]?.getD undef = .pointer (some ⟨w.heap.size, 0, none⟩) := by simpa using h5
  refine ⟨.tuple #[.pointer none, .iface 161 (ptrV g)], ?_, ?_, ?_⟩
  · simp [results, hfn, h4', h5', go_sem, hc5]
  · exact (hB.setCell (p := ⟨w.heap.size, 0, none⟩) (Nat.le_refl _) _).alloc (by simp [World.setCell]; omega) _
  · rw [hr]
    refine ⟨g, rfl, ?_⟩
    rw [Below.heap_alloc _ _ _ (by have := (Array.getElem?_eq_some_iff.1 hg).1; simp [World.setCell]; omega), Below.heap_setCell _ _ _ _ (show g ≠ w.heap.size by omega)]
    exact hg
theorem readingQ_long_c (s : ByteArray) (w : World) (hs : 2000 < s.size) (hs2 : s.size ≤ 32768) :
    Calls Tryz.prog 110 #[.string s, .func (.func 111) #[] #[]] w fun e w' => AskC s w e w' := by
  have hmf : ∀ (fn : Fn) (first cap : Array Value) (w : World), (Instr.makeFunc fn first cap).run Tryz.prog w = .ok (.func fn first cap) w := fun _ _ _ _ => rfl
  have HF := hide newFault_c
  have HR : Hid (questS s = .error (1, 0)) := by unfold Hid questS; rw [if_pos hs]
  go_enter_defers Tryz.func110, Tryz.ntmps110
  go_wp2_with (first | (go_at_call 154; refine (HF.out _ _ _).mono ?_; rintro e w2 ⟨g, hg2, rfl, hcell, hB⟩))
  have hb0 := boxed hB
  exact AskC.err HR.out (below_box hB) hcell hb0 (by simp at hg2; omega) rfl rfl rfl
theorem readingQ_end {s : ByteArray} {w w9 : World} {l : Bd × List ByteArray} {pp : Nat} {fn : Func} {tmps : Array Value} {o : Obj} (hr : questS s = .ok l) (hB : Below w.heap.size w w9) (hbx : w9.heap[w.heap.size]? = some (.cells #[.nilIface] 90 (0, 0))) (hQ : QIn w9 pp)
    (hfn : fn.results = #[.tmp 4, .cell 5 90]) (h4 : tmps.getD 4 undef = .pointer (some ⟨pp, 0, none⟩)) (h5 : tmps.getD 5 undef = .pointer (some ⟨w.heap.size, 0, none⟩)) :
    Leaves Tryz.prog fn tmps (fun e w' => AskC s w e w') [] .returning ((w9.setCell ⟨w.heap.size, 0, none⟩ .nilIface).alloc o).drew := by
  have hlt : w.heap.size < w9.heap.size := (Array.getElem?_eq_some_iff.1 hbx).1
  have hl5 : ((w9.setCell ⟨w.heap.size, 0, none⟩ .nilIface).alloc o).drew.heap[w.heap.size]? = some (.cells #[.nilIface] 90 (0, 0)) := by
    show ((w9.setCell ⟨w.heap.size, 0, none⟩ .nilIface).alloc o).heap[w.heap.size]? = _
    rw [Below.heap_alloc _ _ _ (by simp [World.setCell]; omega), heap_setCell_same hbx]; rfl
  have hc5 : ((w9.setCell ⟨w.heap.size, 0, none⟩ .nilIface).alloc o).drew.cell? ⟨w.heap.size, 0, none⟩ = some .nilIface := by rw [cell_of_block hl5]; rfl
  have h4' : tmps[4]?.getD undef = .pointer (some ⟨pp, 0, none⟩) := by simpa using h4
  have hQ' : QIn ((w9.setCell ⟨w.heap.size, 0, none⟩ .nilIface).alloc o).drew pp := hQ.keep fun b cs T q hT => by
    show ((w9.setCell ⟨w.heap.size, 0, none⟩ .nilIface).alloc o).heap[b]? = _
    have hb := (Array.getElem?_eq_some_iff.1 q).1
    rw [Below.heap_alloc _ _ _ (by simp [World.setCell]; omega), Below.heap_setCell _ _ _ _ (fun e => ?_)]
    have e' : b = w.heap.size := e
    rw [e', hbx] at q
    injection q with q
    injection q with _ q
    rcases hT with h | h | h <;> rw [h] at q <;> exact absurd q (by decide)
  have h5' : tmps[5]?.getD undef = .pointer (some ⟨w.heap.size, 0, none⟩) := by simpa using h5
  generalize hW : ((w9.setCell ⟨w.heap.size, 0, none⟩ .nilIface).alloc o).drew = W at *
  refine ⟨.tuple #[.pointer (some ⟨pp, 0, none⟩), .nilIface], ?_, ?_, ?_⟩
  · simp [results, hfn, h4', h5', go_sem, hc5]
  · rw [← hW]; exact ((hB.setCell (p := ⟨w.heap.size, 0, none⟩) (Nat.le_refl _) _).alloc (by simp [World.setCell]; omega) _).drew
  · rw [hr]
    exact ⟨_, rfl, hQ'⟩
theorem readingQ_c (s : ByteArray) (w : World) (hs : s.size ≤ 2000) (hsg : SignsIn w) (hng : 1 < w.heap.size) :
    Calls Tryz.prog 110 #[.string s, .func (.func 111) #[] #[]] w fun e w' => AskC s w e w' := by
  have hmf : ∀ (fn : Fn) (first cap : Array Value) (w : World), (Instr.makeFunc fn first cap).run Tryz.prog w = .ok (.func fn first cap) w := fun _ _ _ _ => rfl
  have HS := hide (fun (w' : World) (h1 : SignsIn w') (h2 : 1 < w'.heap.size) => split_s s w' hs h1 h2)
  have ff0 := tok_f0
  have hsa := hide (fun o => hsg.allocS hng o)
  cases hl : lexS s with
  | error p =>
    have HR : Hid (questS s = .error (2, p)) := by unfold Hid questS; rw [if_neg (by omega), hl]
    have HS' : Hid (∀ w', SignsIn w' → 1 < w'.heap.size → Calls Tryz.prog 155 #[.string s] w' fun e w'' => Below w'.heap.size w' w'' ∧ FaultAt 2 p w' e w'') := fun w' h1 h2 => (HS.out w' h1 h2).mono fun e w'' h => by unfold SplitPost at h; rw [hl] at h; exact h
    clear HS hl
    go_enter_defers Tryz.func110, Tryz.ntmps110
    go_wp2_with (first | (go_at_call 155; refine (HS'.out _ (hsa.out _) (by simp; omega)).mono ?_; rintro e w2 ⟨hB, g, hg2, rfl, hcell⟩))
    exact AskC.err HR.out (below_box hB) hcell (boxed hB) (by simp at hg2; omega) rfl rfl rfl
  | ok l =>
    obtain ⟨toks, htk⟩ : ∃ toks, toks = withEnd s l := ⟨_, rfl⟩
    have hg := good_toks hs hl
    have ht := tts_of hl
    have hn : ∀ i, (tk (withEnd s l) i).t.size ≤ 2000 := fun i => by
      have hl' := lex_names s.size 0 [] l hl (by simp)
      unfold tk
      rw [List.getD_eq_getElem?_getD]
      cases q : (withEnd s l)[i]? with
      | none => simp
      | some t =>
        simp only [Option.getD_some]
        have hm := List.mem_of_getElem? q
        unfold withEnd at hm
        rcases List.mem_append.1 hm with hm | hm
        · have := hl' t hm; omega
        · have := List.mem_singleton.1 hm; subst this; simp
    rw [← htk] at hg ht hn
    have HS' : Hid (∀ w', SignsIn w' → 1 < w'.heap.size → Calls Tryz.prog 155 #[.string s] w' fun e w'' => Below w'.heap.size w' w'' ∧ ∃ v, e = .returned v ∧ w''.ownsRow w'.heap.size 298 3 v toks.length (tokC toks)) := fun w' h1 h2 => (HS.out w' h1 h2).mono fun e w'' h => by unfold SplitPost at h; rw [hl] at h; rw [htk]; exact h
    have HA : AsCallOk := fun w vbs x u Ok h1 h2 => asCall_c h1 h2
    have HE := hide (fun (w' : World) (bp : Nat) (lv vv : Value) (st : St) (vbs : List Nat) (h' : RIn w' bp toks lv vv st.1 0 st.2 vbs) => question_c hg ht (body_at_c hg ht hn HA) w' bp lv vv st vbs h')
    clear HA
    have hts : questS s = match questR toks (bodyS toks 8) (0, []) with
      | .error e => .error e
      | .ok (x, st) => if (tk toks st.1).k = 101 then .ok (x, st.2) else .error (2, (tk toks st.1).a) := by unfold questS; rw [if_neg (by omega), hl, htk]; exact questR_end _ _ _
    clear HS hl htk
    cases hr : questR toks (bodyS toks 8) (0, []) with
    | error p =>
      obtain ⟨er, a⟩ := p
      have HR : Hid (questS s = .error (er, a)) := by rw [Hid, hts, hr]
      have HE' : Hid (∀ (w' : World) (bp : Nat) (lv : Value), RIn w' bp toks lv (.slice none 0 0) 0 0 [] [] → Calls Tryz.prog 111 #[ptrV bp] w' fun e w'' => RFault er a bp lv (.slice none 0 0) 0 w' e w'') := fun w' bp lv h' => (HE.out w' bp lv (.slice none 0 0) (0, []) [] h').mono fun e w'' h => by rw [hr] at h; exact h
      clear HE hts hr
      unfold ptrV at *
      go_enter_defers Tryz.func110, Tryz.ntmps110
      go_wp2_with (first | (go_at_call 155; refine (HS'.out _ (hsa.out _) (by simp; omega)).mono ?_; rintro e w2 ⟨hB, v, rfl, hown⟩; have hR := RIn.start hown hg.pos; obtain ⟨ao, cp, hvf⟩ := row_form hown; subst hvf) | (go_at_call 111; refine (HE'.out _ _ _ hR).mono ?_; rintro e w9 hF; have hF' := hF; obtain ⟨g, vv', i', h1, rfl, h3, h4, h5⟩ := hF))
      have hz := hB.size
      simp at hz
      have hbx := boxed hB
      have hB2 : Below w.heap.size w w2 := below_box hB
      have hFb : Below (w.heap.size + 1) (w2.alloc _) w9 := h4.toBelow (n := w.heap.size + 1) (by simp; omega) (by omega) (fun k e => by cases e)
      refine AskC.err HR.out ((hB2.alloc (by omega) _).trans (hFb.mono (by omega))) h3 ?_ (by simp at h1; omega) rfl rfl rfl
      rw [hFb.block _ (by omega), Below.heap_alloc _ _ _ (by omega)]
      exact hbx
    | ok p =>
      obtain ⟨x, st⟩ := p
      have HE' : Hid (∀ (w' : World) (bp : Nat) (lv : Value), RIn w' bp toks lv (.slice none 0 0) 0 0 [] [] → Calls Tryz.prog 111 #[ptrV bp] w' fun e w'' => ∃ (pb : Nat) (tb : TypeId) (vb vv' : Value) (vbs' : List Nat), e = .returned (.pointer (some ⟨pb, 0, none⟩)) ∧ RIn w'' bp toks lv vv' st.1 0 st.2 vbs' ∧ Fr bp (.slice none 0 0) vv' w' w'' ∧ w''.heap[pb]? = some (.cells #[.iface tb vb, vv'] 236 (0, 0))) := fun w' bp lv h' => (HE.out w' bp lv (.slice none 0 0) (0, []) [] h').mono fun e w'' h => by rw [hr] at h; exact h
      rw [hr] at hts
      have hts : questS s = if (tk toks st.1).k = 101 then .ok (x, st.2) else .error (2, (tk toks st.1).a) := hts
      have HN := hide (fun (w' : World) (bp : Nat) (lv vv' : Value) (vbs' : List Nat) (h' : RIn w' bp toks lv vv' st.1 0 st.2 vbs') => now_c h' hg)
      have hke := (ht st.1).kC_end
      have HM := hide (fun (w' : World) (bp : Nat) (lv vv' : Value) (vbs' : List Nat) (h' : RIn w' bp toks lv vv' st.1 0 st.2 vbs') => misplaced_c h' hg)
      have HBX := hide (fun (w2 : World) (h : Below (w.alloc (.cells #[.nilIface] 90)).heap.size (w.alloc (.cells #[.nilIface] 90)) w2) (v vv' : Value) (w9 : World) (h4 : Fr w2.heap.size (.slice none 0 0) vv' (w2.alloc (.cells #[v, .int .i64 0, .int .i64 0, .slice none 0 0] 295)) w9) => readBox h v vv' h4)
      obtain ⟨t, hT⟩ : ∃ t, t = tk toks st.1 := ⟨_, rfl⟩
      rw [← hT] at HN HM hke hts
      unfold tokVC tokB at HN
      obtain ⟨K, hK⟩ : ∃ K, K = kC t.k := ⟨_, rfl⟩
      rw [← hK] at HN hke
      have HK := hide hK.symm
      by_cases hk : t.k = 101
      · have h4 : K = 4 := hke.2 hk
        have HR : Hid (questS s = .ok (x, st.2)) := by rw [Hid, hts]; simp only [hk, if_true]
        clear HE hts hr hke hT hk hK HM
        subst h4
        unfold ptrV at *
        go_enter_defers Tryz.func110, Tryz.ntmps110
        go_wp2_with (first | (go_at_call 155; refine (HS'.out _ (hsa.out _) (by simp; omega)).mono ?_; rintro e w2 ⟨hB, v, rfl, hown⟩; have hR := RIn.start hown hg.pos; obtain ⟨ao, cp, hvf⟩ := row_form hown; subst hvf) | (go_at_call 111; refine (HE'.out _ _ _ hR).mono ?_; rintro e w9 ⟨p9, tb9, vb9, vv9, vbs9, rfl, r2, r4, r5⟩; obtain ⟨hBw, hbx⟩ := HBX.out w2 hB _ _ w9 r4; have hbc : ∀ o, (w9.alloc o).cell? ⟨w.heap.size, 0, none⟩ = some .nilIface := cell_alloc1 (by rw [cell_of_block hbx]; rfl); have hbf : ∀ o, (w9.alloc o).frozen? ⟨w.heap.size, 0, none⟩ = false := fun o => fz_alloc hbx o 0; have hbl : w.heap.size < w9.heap.size := (Array.getElem?_eq_some_iff.1 hbx).1) | (go_at_call 156; refine (HN.out _ _ _ _ _ r2).mono ?_; rintro e w10 ⟨rfl, rfl⟩))
        exact door_retQ (readingQ_end HR.out hBw hbx (QIn.of r2 r5) rfl rfl rfl)
      · have h4 : ¬ K = 4 := fun e => hk (hke.1 e)
        have HR : Hid (questS s = .error (2, t.a)) := by rw [Hid, hts]; simp only [hk, if_false]
        clear HE hts hr hke hT hk hK
        unfold ptrV at *
        go_enter_defers Tryz.func110, Tryz.ntmps110
        go_wp2_with (first | (go_at_call 155; refine (HS'.out _ (hsa.out _) (by simp; omega)).mono ?_; rintro e w2 ⟨hB, v, rfl, hown⟩; have hR := RIn.start hown hg.pos; obtain ⟨ao, cp, hvf⟩ := row_form hown; subst hvf) | (go_at_call 111; refine (HE'.out _ _ _ hR).mono ?_; rintro e w9 ⟨p9, tb9, vb9, vv9, vbs9, rfl, r2, r4, r5⟩; obtain ⟨hBw, hbx⟩ := HBX.out w2 hB _ _ w9 r4; have hbc : ∀ o, (w9.alloc o).cell? ⟨w.heap.size, 0, none⟩ = some .nilIface := cell_alloc1 (by rw [cell_of_block hbx]; rfl); have hbf : ∀ o, (w9.alloc o).frozen? ⟨w.heap.size, 0, none⟩ = false := fun o => fz_alloc hbx o 0; have hbl : w.heap.size < w9.heap.size := (Array.getElem?_eq_some_iff.1 hbx).1) | (go_at_call 156; refine (HN.out _ _ _ _ _ r2).mono ?_; rintro e w10 ⟨rfl, rfl⟩) | (go_at_call 157; refine (HM.out _ _ _ _ _ (r2.alloc _).drew).mono ?_; rintro e w11 ⟨g, hg2, rfl, hcell, hB11⟩))
        have hB12 : Below w9.heap.size w9 w11 := (((Below.refl _ _).alloc (Nat.le_refl _) _).drew).trans (hB11.mono (by simp))
        refine AskC.err HR.out (below_chain hBw hB12) hcell (by rw [hB12.block _ hbl]; exact hbx) (by simp at hg2; omega) rfl rfl rfl
theorem syntaxQuestion_c (s : ByteArray) (w : World) (hs : s.size ≤ 32768) (hsg : SignsIn w) (hng : 1 < w.heap.size) :
    Calls Tryz.prog 75 #[.string s] w fun e w' => AskC s w e w' := by
  have HRd : Hid (Calls Tryz.prog 110 #[.string s, .func (.func 111) #[] #[]] w fun e w' => AskC s w e w') := by
    by_cases h : s.size ≤ 2000
    · exact readingQ_c s w h hsg hng
    · exact readingQ_long_c s w (by omega) hs
  cases hr : questS s with
  | error p =>
    obtain ⟨er, a⟩ := p
    have HRd' : Hid (Calls Tryz.prog 110 #[.string s, .func (.func 111) #[] #[]] w fun e w' => Below w.heap.size w w' ∧ ∃ g, e = .returned (.tuple #[.pointer none, .iface 161 (ptrV g)]) ∧ w'.heap[g]? = some (atV er a)) := HRd.out.mono fun e w' h => by unfold AskC at h; rw [hr] at h; exact h
    have HR := hide hr
    clear HRd hr
    go_enter Tryz.func75, Tryz.ntmps75
    go_wp2_with (first | (go_at_call 110; refine HRd'.out.mono ?_; rintro e w1 ⟨hB, g, rfl, hc⟩))
    go_ret2
    exact ⟨hB, by rw [HR.out]; exact ⟨g, rfl, hc⟩⟩
  | ok l =>
    have HRd' : Hid (Calls Tryz.prog 110 #[.string s, .func (.func 111) #[] #[]] w fun e w' => Below w.heap.size w w' ∧ ∃ p : Nat, e = .returned (.tuple #[.pointer (some ⟨p, 0, none⟩), .nilIface]) ∧ QIn w' p) := HRd.out.mono fun e w' h => by unfold AskC at h; rw [hr] at h; exact h
    have HR := hide hr
    clear HRd hr
    go_enter Tryz.func75, Tryz.ntmps75
    go_wp2_with (first | (go_at_call 110; refine HRd'.out.mono ?_; rintro e w1 ⟨hB, p, rfl, hQ⟩))
    go_ret2
    exact ⟨hB, by rw [HR.out]; exact ⟨p, rfl, hQ⟩⟩
end Go.Proofs.YtodpkdajbnceoaaGreatDoor
