/-
  Books: writing a new line.
-/
import Derived.Test.YtcfdlffjghlghaaB6
namespace Go.Proofs.Ytcfdlffjghlghaa
set_option maxRecDepth 100000
open Go.RowKit
set_option linter.unusedVariables false
set_option linter.unusedSimpArgs false
attribute [local go_sem] eqh_guard
theorem opv {P : Program} {ops : Array Oper} {o : Oper} {a : Act} {w w2 : World} {v : Value} {F : Value → World → Prop} (hg : o.guard = none) (h : (execOp a.eval o).run P w = .ok (.value v) w2) (hF : F (keeps o.dst v) w2) : opRuns P ops (fun _ _ => True) o a w F := by
  unfold opRuns
  simp only [Region.wanted, hg, h, if_true]
  exact ⟨trivial, hF⟩
theorem ops_ {P : Program} {ops : Array Oper} {o : Oper} {a : Act} {w w2 : World} {F : Value → World → Prop} (hg : o.guard = none) (h : (execOp a.eval o).run P w = .ok .skip w2) (hF : F undef w2) : opRuns P ops (fun _ _ => True) o a w F := by
  unfold opRuns
  simp only [Region.wanted, hg, h, if_true]
  exact ⟨trivial, hF⟩
theorem GrownX.trans {X : Nat → Prop} {a b c : World} (h : GrownX X a b) (k : GrownX X b c) : GrownX X a c := ⟨k.os.trans h.os, k.tape.trans h.tape, k.output.trans h.output, Nat.le_trans h.size k.size, fun q hq hn => (k.block q (Nat.lt_of_lt_of_le hq h.size) hn).trans (h.block q hq hn)⟩
theorem GrownX.ofBy {X : Nat → Prop} {r : Nat} {a b : World} (h : a.grownBy b (some r)) (hr : X r) : GrownX X a b := ⟨h.os, h.tape, h.output, h.size, fun k hk hn => h.block k hk (fun e => hn (by cases e; exact hr))⟩
set_option maxRecDepth 100000 in
set_option maxHeartbeats 2000000 in
theorem write_new (w : World) (r : Nat) (t : TypeId) (v : Value) (L : List Ln) (s f e : Int) (p : List UInt8) (hp : p.length = 32) (h0 : 0 ≤ e) (h1 : e ≤ 1099511627776) (hL : L.length ≤ 1000000) (hh : hasV L e = false) (hfull : L.length < 100) (h : BookW w r t v L s f) :
    Calls Try.prog 13 #[.pointer (some ⟨r, 0, none⟩), .int .i64 e, .agg (HC p)] w fun x w' => x = .returned (.int .i64 0) ∧ ∃ v', BookW w' r t v' (L ++ [(e, p)]) s f ∧ (v'.ownBlock = v.ownBlock ∨ ∃ q, v'.ownBlock = some q ∧ w.heap.size ≤ q) ∧ GrownX (fun k => k = r ∨ v.ownBlock = some k) w w' := by
  have hlen := getV_len L h.len e
  have hsz : (Try.prog.info? 30).map (·.size) = some (HC (getV L e)).size := by rw [HC_size, hlen]; kernel_rfl
  have hsz2 : (HC (List.replicate 32 (0 : UInt8))).size = (HC (getV L e)).size := by rw [HC_size, HC_size, hlen]; rfl
  have hsz3 : (Try.prog.info? 30).map (·.size) = some (HC p).size := by rw [HC_size, hp]; kernel_rfl
  have hA := h.grow (grown_alloc w (.cells (HC p) 30) none)
  have he2 : ¬ e < 0 := by omega
  have he3 : ¬ e > 1099511627776 := by omega
  obtain ⟨ad, c, rfl⟩ := run_len_any h.own
  have hge : (L.length : Int) < 100 := by omega
  have S1 := Lib.hid hsz; have S2 := Lib.hid hsz2; have S3 := Lib.hid hsz3; have HP := Lib.hid hp; have HF := Lib.hid hfull
  have HH := Lib.hid h; have HLL := Lib.hid hL; have HA := Lib.hid hA
  clear h hL hlen hsz hsz2 hsz3 h0 h1 hp hA hfull
  go_enter_defers Try.func13, Try.ntmps13
  go_wp2_with fail
  go_at_call 24
  refine (lock_free ⟨r, 0, none⟩ _ (HA.out.blk.cell 0) (HA.out.blk.frozen 0)).mono ?_
  rintro x1 w1 ⟨rfl, hw1⟩
  have hL1 : BookL w1 r t (.slice ad L.length c) L s f := by rw [hw1]; exact BookL.of HA.out
  have hR1 : Blk w1 w.heap.size (HC p) 30 := by
    rw [hw1]
    exact (Blk.newAt _ _ rfl).other _ _ (by have := HH.out.blk.lt; show w.heap.size ≠ r; omega)
  have hG1 : w.grownBy w1 (some r) := by rw [hw1]; exact grown_setCell (grown_alloc w _ _) 0 _
  have HL1 := Lib.hid hL1; have HR1 := Lib.hid hR1; have HG1 := Lib.hid hG1
  clear hw1 hL1 hR1 hG1
  go_wp2_with fail
  go_at_call 26
  refine (HL1.out.find HLL.out e).mono ?_
  rintro x2 w2 ⟨rfl, hb2⟩
  have hL2 := (HL1.out.grow (grownB hb2)).grow (grown_alloc w2 (.cells (HC (List.replicate 32 (0 : UInt8))) 30) none)
  have hR2 : Blk (w2.alloc (.cells (HC (List.replicate 32 (0 : UInt8))) 30)) w.heap.size (HC p) 30 := (HR1.out.keep hb2).keep ((Below.refl _ _).alloc (Nat.le_refl _) _)
  have hR3 : Blk (w2.alloc (.cells (HC (List.replicate 32 (0 : UInt8))) 30)) w2.heap.size (HC (List.replicate 32 (0 : UInt8))) 30 := Blk.newAt _ _ rfl
  have hG2 : w.grownBy (w2.alloc (.cells (HC (List.replicate 32 (0 : UInt8))) 30)) (some r) := grown_trans (grown_trans HG1.out (grownB hb2)) (grown_alloc w2 _ _)
  have hn1 : w.heap.size < w2.heap.size := Nat.lt_of_lt_of_le HR1.out.lt hb2.size
  have hn2 : r < w.heap.size := HH.out.blk.lt
  have hvn : (Value.slice ad L.length c).ownBlock ≠ some w2.heap.size := fun e => by have := (HL1.out.grow (grownB hb2)).lt _ e; omega
  have HL2 := Lib.hid hL2; have HR2 := Lib.hid hR2; have HR3 := Lib.hid hR3; have HG2 := Lib.hid hG2; have HN1 := Lib.hid hn1; have HN2 := Lib.hid hn2; have HVN := Lib.hid hvn
  clear hb2 hL2 hR2 hR3 hG2 hn1 hn2 hvn
  go_wp2_with (first
    | (refine wpList_store_row rfl 30 _ _ rfl w2.heap.size (HC (getV L e)) rfl rfl 30 (HC (List.replicate 32 0)) HR3.out S1.out S2.out (HC_one _) ?_
       refine wpl_gen (fun w3 hw3 => ?_)
       have hL3 : BookL w3 r t (.slice ad L.length c) L s f := by rw [hw3]; exact HL2.out.setNew (by have := HN1.out; have := HN2.out; omega) HVN.out (HC (getV L e))
       have hR4 : Blk w3 w.heap.size (HC p) 30 := by rw [hw3]; exact (setRow_other _ _ _ _ (by have := HN1.out; omega)).trans HR2.out
       have hR5 : Blk w3 w2.heap.size (HC (getV L e)) 30 := by rw [hw3]; exact HR3.out.setRow _
       have hG3 : w.grownBy w3 (some r) := by rw [hw3]; exact grown_setRow HG2.out _ (.inl (Nat.le_of_lt HN1.out))
       have c2 : w3.cell? ⟨r, 2, none⟩ = some (.slice ad L.length c) := hL3.blk.cell 2
       have HL3 := Lib.hid hL3; have HR4 := Lib.hid hR4; have HR5 := Lib.hid hR5; have HG3 := Lib.hid hG3
       clear hw3 hL3 hR4 hR5 hG3)
    | (refine list_wanted rfl ?_; refine wpList_load_row rfl 30 _ rfl w2.heap.size rfl 30 (HC (getV L e)) (0, 0) _ HR5.out Try.underlying30 rfl S1.out ?_)
    | (refine list_wanted rfl ?_; refine wpList_load_row rfl 30 _ rfl w.heap.size rfl 30 (HC p) (0, 0) _ HR4.out Try.underlying30 rfl S3.out ?_))
  have hs12 : ∀ {S : Nat → Bool}, (∀ k, S k = true → ∀ j ∈ ([[], [], [1], [2], [3], [], [], [5, 6], [7], [4, 8], [0, 9], [10], [11, 9]] : List (List Nat)).getD k [], S j = true) → S 9 = false → S 12 = false := fun {S} hcl h9 => by
    cases h : S 12 with
    | false => rfl
    | true => have := hcl 12 h 9 (by simp); rw [h9] at this; cases this
  have hA0 : w.heap.size ≠ r := by have := HN2.out; omega
  have hV1 : (Value.slice ad L.length c).ownBlock ≠ some r := HL3.out.sep
  have hV2 : (Value.slice ad L.length c).ownBlock ≠ some w.heap.size := fun e => by have h := HH.out.own.2; rcases h with ⟨e1, _⟩ | ⟨q, cap, cur, e1, _, h5, _⟩ <;> rw [e1] at e <;> cases e; exact absurd (Array.getElem?_eq_some_iff.1 h5).1 (Nat.lt_irrefl _)
  have hV3 := HL3.out.lt
  have hr3 : r < w3.heap.size := HL3.out.blk.lt
  refine region_inv (JB w3 r w.heap.size t (.slice ad L.length c) L s f e p) [[], [], [1], [2], [3], [], [], [5, 6], [7], [4, 8], [0, 9], [10], [11, 9]] (by kernel_rfl) (by kernel_rfl) (by kernel_rfl)
    ⟨⟨rfl, rfl, rfl, Nat.le_refl _, fun _ _ _ => rfl⟩, HR4.out.drew, (fun k x hk => Bool.noConfusion hk), (fun hk => Bool.noConfusion hk), (fun _ => HL3.out.own), (fun hk => Bool.noConfusion hk), (fun _ => HL3.out.blk.drew), (fun hk => Bool.noConfusion hk), (fun hk => Bool.noConfusion hk)⟩ ?_ ?_
  · refine ⟨?_, ?_, ?_, ?_, ?_, ?_, ?_, ?_, ?_, ?_, ?_, ?_, ?_, trivial⟩
    · intro S vals wj hJ hSi hD hcl
      refine opv rfl ?_ (hJ.pure (i := 0) rfl)
      simp [execOp, putAll, Act.put, Act.eval, Instr.fieldAt, go_sem]
    · intro S vals wj hJ hSi hD hcl
      refine opv rfl ?_ (hJ.pure (i := 1) rfl)
      simp [execOp, putAll, Act.put, Act.eval, Instr.fieldAt, go_sem]
    · intro S vals wj hJ hSi hD hcl
      have d1 := hJ.val 1 _ (hD 1 (by simp)) rfl
      refine opv rfl ?_ (hJ.pure (i := 2) rfl)
      simp [execOp, putAll, Act.put, Act.eval, Instr.fieldAt, go_sem, d1]
    · intro S vals wj hJ hSi hD hcl
      have d2 := hJ.val 2 _ (hD 2 (by simp)) rfl
      refine opv rfl ?_ (hJ.pure (i := 3) rfl)
      simp [execOp, putAll, Act.put, Act.eval, Instr.fieldAt, go_sem, d2]
    · intro S vals wj hJ hSi hD hcl
      have d3 := hJ.val 3 _ (hD 3 (by simp)) rfl
      have h9 : S 9 = false := by cases h : S 9 with | false => rfl | true => have := hcl 9 h 4 (by simp); rw [hSi] at this; cases this
      have c9 : wj.cell? ⟨r, 2, none⟩ = some (.slice ad L.length c) := (hJ.blk0 (hs12 hcl h9)).cell 2
      refine opv rfl ?_ (hJ.pure (i := 4) rfl)
      simp [execOp, putAll, Act.put, Act.eval, go_sem, d3, c9]
    · intro S vals wj hJ hSi hD hcl
      refine opv rfl ?_ (hJ.pure (i := 5) rfl)
      simp [execOp, putAll, Act.put, Act.eval, Instr.fieldAt, go_sem]
    · intro S vals wj hJ hSi hD hcl
      have := run_loadVar_row (P := Try.prog) wj w.heap.size 30 30 (HC p) (0, 0) _ hJ.paper Try.underlying30 rfl S3.out
      exact opv rfl (exec_load rfl (by simp [putAll, Act.put, Act.eval]) this) (hJ.pure (i := 6) rfl)
    · intro S vals wj hJ hSi hD hcl
      have d5 := hJ.val 5 _ (hD 5 (by simp)) rfl
      have d6 := hJ.val 6 _ (hD 6 (by simp)) rfl
      refine opv rfl ?_ (hJ.pure (i := 7) rfl)
      have := run_build wj 65 _ _ (built_line e HP.out)
      simp [execOp, putAll, Act.put, Act.eval, d5, d6, this, Sem.run_bind]
    · intro S vals wj hJ hSi hD hcl
      have d7 := hJ.val 7 _ (hD 7 (by simp)) rfl
      have h9 : S 9 = false := by cases h : S 9 with | false => rfl | true => have := hcl 9 h 8 (by simp); rw [hSi] at this; cases this
      refine opv rfl ?_ (hJ.alloc h9 (hs12 hcl h9))
      have := slice_line wj e HP.out
      simp [execOp, putAll, Act.put, Act.eval, d7, this, Sem.run_bind]
    · intro S vals wj hJ hSi hD hcl
      have d4 := hJ.val 4 _ (hD 4 (by simp)) rfl
      obtain ⟨g, k1, k2, k3⟩ := hJ.x8 (hD 8 (by simp))
      obtain ⟨v', wn, k4, k5, k6, k7⟩ := append_line wj e HP.out 57 (by have := HF.out; omega) (hJ.old hSi) k2
      refine opv rfl ?_ (hJ.app hSi (hs12 hcl hSi) k5 k6 k7 hV1 hV2 hV3)
      simp [execOp, putAll, Act.put, Act.eval, d4, k1, resolve, invoke, builtin, k4, Sem.run_bind]
    · intro S vals wj hJ hSi hD hcl
      have d0 := hJ.val 0 _ (hD 0 (by simp)) rfl
      refine opv rfl ?_ (hJ.pure (i := 10) rfl)
      simp [execOp, putAll, Act.put, Act.eval, Instr.fieldAt, go_sem, d0]
    · intro S vals wj hJ hSi hD hcl
      have d10 := hJ.val 10 _ (hD 10 (by simp)) rfl
      refine opv rfl ?_ (hJ.pure (i := 11) rfl)
      simp [execOp, putAll, Act.put, Act.eval, Instr.fieldAt, go_sem, d10]
    · intro S vals wj hJ hSi hD hcl
      have d11 := hJ.val 11 _ (hD 11 (by simp)) rfl
      have z9 := (hJ.blk0 hSi).frozen 2
      have z8 : wj.cell? ⟨r, 2, none⟩ = some (.slice ad L.length c) := (hJ.blk0 hSi).cell 2
      obtain ⟨ad9, c9, hv9⟩ := run_len_any (hJ.new (hD 9 (by simp))).1
      refine ops_ rfl ?_ (hJ.store (hD 9 (by simp)) hSi hA0 hr3 hV1 undef)
      simp [execOp, putAll, Act.put, Act.eval, go_sem, d11, z9, z8, hv9]
  · intro vals wz hJ
    have e0 := hJ.val 0 _ rfl rfl
    have e1 := hJ.val 1 _ rfl rfl
    have e2 := hJ.val 2 _ rfl rfl
    have e3 := hJ.val 3 _ rfl rfl
    have e4 := hJ.val 4 _ rfl rfl
    have e5 := hJ.val 5 _ rfl rfl
    have e6 := hJ.val 6 _ rfl rfl
    have e7 := hJ.val 7 _ rfl rfl
    have e10 := hJ.val 10 _ rfl rfl
    have e11 := hJ.val 11 _ rfl rfl
    obtain ⟨n1, n2⟩ := hJ.new rfl
    have n3 := hJ.blk1 rfl
    have n4 := hJ.grown
    have hlen2 : (L ++ [(e, p)]).length = L.length + 1 := by simp
    have hok : ∀ x ∈ L ++ [(e, p)], x.2.length = 32 := by
      intro x hx
      rcases List.mem_append.1 hx with hx | hx
      · exact HH.out.len x hx
      · rcases List.mem_cons.1 hx with rfl | hx
        · exact HP.out
        · cases hx
    generalize hV9 : vals 9 = V9 at n1 n2 n3
    have N1 := Lib.hid n1; have N2 := Lib.hid n2; have N3 := Lib.hid n3; have N4 := Lib.hid n4; have HOK := Lib.hid hok; have H1 := Lib.hid hV1
    clear n1 n2 n3 n4 hok hJ hV1 hV2 hV3 hr3 hA0 hs12 hlen2
    simp [putAll, List.range, List.range.loop, Act.put, e0, e1, e2, e3, e4, e5, e6, e7, e10, e11, hV9]
    clear hV9 e0 e1 e2 e3 e4 e5 e6 e7 e10 e11
    go_wp2_with fail
    refine leaves_cons (f := 25) (args := #[.pointer (some ⟨r, 0, none⟩)]) (by simp) (by simp [go_sem]) ?_
    refine (unlock_deferred ⟨r, 0, none⟩ _ _ (N3.out.cell 0) (N3.out.frozen 0)).mono ?_
    rintro x4 u' w4 ⟨rfl, rfl, hw4⟩
    have hr3 : r < w3.heap.size := HL3.out.blk.lt
    have hk4 : Blk w4 r (BC 0 V9 s f) t := by rw [hw4]; exact (N3.out.set 0 _).copy rfl
    have hg4 : wz.grownBy w4 (some r) := by rw [hw4]; exact grown_setCell (grown_refl wz _) 0 _
    have hsep : V9.ownBlock ≠ some r := fun e1 => by
      rcases N2.out with e2 | ⟨q, e2, e3⟩
      · rw [e2] at e1; exact H1.out e1
      · rw [e2] at e1; cases e1; omega
    have hbw : BookW w4 r t V9 (L ++ [(e, p)]) s f := by
      refine ⟨hk4, ?_, hsep, HOK.out⟩
      have e1 : (L ++ [(e, p)]).length = L.length + 1 := by simp
      rw [e1]
      exact ownsRow_keep N1.out fun q hq hlt => hg4.block q hlt (fun e2 => hsep (by cases e2; exact hq))
    have hgw : GrownX (fun k => k = r ∨ (Value.slice ad L.length c).ownBlock = some k) w w4 := ((GrownX.ofBy HG3.out (.inl rfl)).trans N4.out).trans (.ofBy hg4 (.inl rfl))
    have hnb : V9.ownBlock = (Value.slice ad L.length c).ownBlock ∨ ∃ q, V9.ownBlock = some q ∧ w.heap.size ≤ q := N2.out.imp id fun ⟨q, e2, e3⟩ => ⟨q, e2, Nat.le_trans HG3.out.size e3⟩
    clear hw4
    simp [Leaves, settle, results, Try.results13]
    exact ⟨V9, hbw, hnb, hgw⟩
end Go.Proofs.Ytcfdlffjghlghaa
