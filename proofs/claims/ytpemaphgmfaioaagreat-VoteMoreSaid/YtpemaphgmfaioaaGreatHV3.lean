/-
  Views: the operations one by one, as the document does them.
-/
import Derived.Test.YtpemaphgmfaioaaGreatHV2
namespace Go.Proofs.YtpemaphgmfaioaaGreat
set_option maxRecDepth 100000
open Go.RowKit Pm
set_option linter.unusedVariables false
set_option linter.unusedSimpArgs false
attribute [local irreducible] condK LoopA regA isI memTo memL freeN usedB fullB putL errAdd isT memB

/-- the first free place among the last d ones -/
def freeD (zs : List Int) : Nat → Int
  | 0 => -1
  | d + 1 => if memL zs (7 - d) = true then freeD zs d else ((7 - d : Nat) : Int)
theorem freeD_find (zs : List Int) : ∀ d ≤ 8, freeD zs d = (match (List.range' (8 - d) d).find? (fun i => !memL zs i) with | some i => (i : Int) | none => -1)
  | 0, _ => rfl
  | d + 1, h => by
    have ih := freeD_find zs d (by omega)
    have e : List.range' (8 - (d + 1)) (d + 1) = (7 - d) :: List.range' (8 - d) d := by
      rw [List.range'_succ, show 8 - (d + 1) = 7 - d by omega, show 7 - d + 1 = 8 - d by omega]
    rw [e, List.find?_cons, freeD]
    cases hm : memL zs (7 - d) with
    | true => simp [ih]
    | false => simp
theorem freeD_8 (zs : List Int) : freeD zs 8 = if fullB zs = true then (-1 : Int) else ((freeN zs : Nat) : Int) := by
  rw [freeD_find zs 8 (by omega)]
  unfold freeN
  rw [show List.range' (8 - 8) 8 = List.range 8 from rfl]
  cases hf : (List.range 8).find? (fun i => !memL zs i) with
  | none =>
    rw [List.find?_eq_none] at hf
    have : fullB zs = true := (full_iff zs).2 fun i hi => by
      have := hf i (by simpa using hi)
      simpa using this
    rw [this]; rfl
  | some i =>
    have h1 := List.find?_some hf
    have h2 := List.mem_of_find?_eq_some hf
    have : fullB zs = false := by
      cases h : fullB zs with
      | false => rfl
      | true =>
        have := (full_iff zs).1 h i (by simpa using h2)
        simp [this] at h1
    rw [this]; rfl
theorem used_none {zs : List Int} {s : Int} (h : ∀ i < 8, zs.getD (i * 2) 0 ≠ s) : usedB zs s = false := used_f h
theorem free_lt {zs : List Int} (h : fullB zs = false) : freeN zs < 8 ∧ memL zs (freeN zs) = false := by
  unfold freeN
  cases hf : (List.range 8).find? (fun i => !memL zs i) with
  | none =>
    rw [List.find?_eq_none] at hf
    have : fullB zs = true := (full_iff zs).2 fun i hi => by
      have := hf i (by simpa using hi)
      simpa using this
    rw [this] at h; cases h
  | some i =>
    have h1 := List.find?_some hf
    have h2 := List.mem_of_find?_eq_some hf
    exact ⟨by simpa using h2, by simpa using h1⟩
set_option maxHeartbeats 4000000 in
theorem radd_ok (e : Int) (zs : List Int) (ad : List Bool) (k : Int) (ch : List UInt8) (xs : List Int) :
    FnMO 45 0 (.var (vSegs e zs ad k ch)) [.agg [.ints .i64 2 xs]] (.t [.v (.int .i64 (if errAdd zs xs = 0 then ((freeN zs : Nat) : Int) else 0)), .v (.int .i64 (errAdd zs xs))])
      (.var (if errAdd zs xs = 0 then vSegs e (putL zs xs (freeN zs : Nat)) (ad.set (freeN zs) false) k ch else vSegs e zs ad k ch)) := by
  refine fnM_lens fun _ hl => ?_
  obtain ⟨x, y, rfl⟩ := two hl.1.1
  clear hl
  refine fnMA (E := envVo) Tryz.func45 Tryz.ntmps45 ?_
  by_cases hxy : (isI x && isI y) = true
  · have he0 : errAdd zs [x, y] = if usedB zs x = true then 7 else if fullB zs = true then 12 else 0 := by
      unfold errAdd; simp [hxy]
    obtain ⟨hx, hy⟩ : isI x = true ∧ isI y = true := by simpa using hxy
    refine agom ?_; (try with_reducible exact True.intro)
    refine StopL.mk (loop_inv [0, 3, 6, 7] 2 (fun s => ∃ d : Nat, d ≤ 8 ∧ (∀ i, 8 - d ≤ i → i < 8 → zs.getD (i * 2) 0 ≠ x) ∧ s = ⟨[.ptr 0 0, .dead, .dead, .ptr 1 0, .dead, .dead, .d (.v (.int .i64 (freeD zs d))), .d (.v (.int .i64 (7 - (d : Int)))), .dead, .dead, .dead, .dead, .dead, .dead, .dead, .dead, .dead, .dead, .dead, .dead, .dead, .dead, .dead, .dead, .dead, .dead, .dead, .dead, .dead, .dead, .dead, .dead, .dead, .dead, .dead, .dead, .dead, .dead, .dead, .dead, .dead, .dead, .dead, .dead, .dead, .dead, .dead, .dead, .dead, .dead, .dead, .dead, .dead, .dead, .dead, .dead, .dead, .dead], [some (.var (vSegs e zs ad k ch)), some (.var [.ints .i64 2 [x, y]])]⟩) (fun s => match s.sl 7 with | .d (.v (.int _ z)) => (z + 1).toNat | _ => 0) rfl ⟨0, by omega, by intro i h1 h2; omega, rfl⟩ ?_)
    rintro s ⟨d, hd, hall, rfl⟩
    have hw : IntKind.i64.wrap (7 - (d : Int) - 1) = 7 - ((d + 1 : Nat) : Int) := by rw [wrapS (by omega) (by omega)]; omega
    by_cases hd8 : d < 8
    · obtain ⟨i, hi⟩ : ∃ i : Nat, i = 7 - d := ⟨_, rfl⟩
      have hi2 : 7 - (d : Int) = (i : Int) := by omega
      have hi8 : i < 8 := by omega
      have hm : memB zs (i : Int) = memL zs i := by unfold memB; simp [leafB]; omega
      rw [hi2] at hw ⊢
      by_cases hs : zs.getD (i * 2) 0 = x
      · have hu : usedB zs x = true := used_t hi8 hs
        have hs1 : (zs.getD (i * 2) 0 == x) = true := by rw [hs]; simp
        have he1 : errAdd zs [x, y] = 7 := by rw [he0, if_pos hu]
        rw [he1, if_neg (by decide), if_neg (by decide)]
        clear he0 he1 hu hs hall hm hi hi2
        refine agom ?_; (try with_reducible exact True.intro)
      · have hs1 : (zs.getD (i * 2) 0 == x) = false := by simpa using hs
        have hnext : ∀ q, 8 - (d + 1) ≤ q → q < 8 → zs.getD (q * 2) 0 ≠ x := fun q h1 h2 => by
          by_cases e : q = i
          · rw [e]; exact hs
          · exact hall q (by omega) h2
        have hf : freeD zs (d + 1) = if memL zs i = true then freeD zs d else (i : Int) := by rw [freeD, ← hi]
        have HI := Lib.hid hi2
        clear he0 hs hall hi hi2
        cases hmm : memL zs i with
        | true =>
          rw [hmm] at hm hf
          rw [if_pos rfl] at hf
          clear hmm
          refine agom ?_; (try with_reducible exact True.intro)
          refine ⟨⟨d + 1, by omega, hnext, by rw [hf, ← hw]; rfl⟩, ?_⟩
          show (IntKind.i64.wrap ((i : Int) - 1) + 1).toNat < ((i : Int) + 1).toNat
          have := HI.out
          rw [hw]; omega
        | false =>
          rw [hmm] at hm hf
          rw [if_neg (by simp)] at hf
          clear hmm
          refine agom ?_; (try with_reducible exact True.intro)
          refine ⟨⟨d + 1, by omega, hnext, by rw [hf, ← hw]; rfl⟩, ?_⟩
          show (IntKind.i64.wrap ((i : Int) - 1) + 1).toNat < ((i : Int) + 1).toNat
          have := HI.out
          rw [hw]; omega
    · obtain rfl : d = 8 := by omega
      have hu : usedB zs x = false := used_none fun i hi => hall i (by omega) hi
      rw [hu, if_neg (by simp)] at he0
      rw [freeD_8]
      clear hall hu hw
      cases hf : fullB zs with
      | true =>
        have he1 : errAdd zs [x, y] = 12 := by rw [he0]; simp [hf]
        rw [he1, if_pos rfl, if_neg (by decide), if_neg (by decide)]
        clear he0 he1
        refine agom ?_; (try with_reducible exact True.intro)
      | false =>
        have he1 : errAdd zs [x, y] = 0 := by rw [he0]; simp [hf]
        obtain ⟨hf8, _⟩ := free_lt hf
        rw [he1, if_neg (by simp), if_pos rfl, if_pos rfl]
        clear he0 he1
        generalize freeN zs = f at *
        refine agom ?_; (try with_reducible exact True.intro)
  · have he0 : errAdd zs [x, y] = 7 := by unfold errAdd; simp [hxy]
    rw [he0, if_neg (by decide), if_neg (by decide)]
    clear he0
    cases hx : isI x with
    | false => refine agom ?_; (try with_reducible exact True.intro)
    | true =>
      have hy : isI y = false := by rw [hx] at hxy; simpa using hxy
      refine agom ?_; (try with_reducible exact True.intro)
end Go.Proofs.YtpemaphgmfaioaaGreat

/-
  Views: the other operations, as the document does them.
-/
namespace Go.Proofs.YtpemaphgmfaioaaGreat
set_option maxRecDepth 100000
open Go.RowKit Pm
set_option linter.unusedVariables false
set_option linter.unusedSimpArgs false
attribute [local irreducible] condK LoopA regA isI memTo memL freeN usedB fullB putL errAdd isT memB

def raddSM : Nat → Bk → List A → (Res → Bk → Prop) → Prop
  | 0, .var [.ints .i64 1 [e], .ints .i64 31 zs, .bools 8 ad, .ints .i64 1 [k], .bytes 32 ch], [.agg [.ints .i64 2 xs]], K =>
    K (.t [.v (.int .i64 (if errAdd zs xs = 0 then ((freeN zs : Nat) : Int) else 0)), .v (.int .i64 (errAdd zs xs))])
      (.var (if errAdd zs xs = 0 then vSegs e (putL zs xs (freeN zs : Nat)) (ad.set (freeN zs) false) k ch else vSegs e zs ad k ch))
  | _, _, _, _ => False
theorem raddSM_ok : ∀ pos x args K, raddSM pos x args K → ∃ r x', FnMO 45 pos x args r x' ∧ K r x' := by
  intro pos x args K h
  unfold raddSM at h
  split at h
  · exact ⟨_, _, radd_ok _ _ _ _ _ _, h⟩
  · exact h.elim
noncomputable def envVp : EnvX := envVo.addM 45 raddSM raddSM_ok ⟨_, Tryz.func45, by kernel_rfl, by kernel_rfl⟩
def errDemR (ad : List Bool) (who : Int) : Int := if who < 0 ∨ who ≥ 8 ∨ ad.getD who.toNat false = false then 7 else 0
def errOneR (zs : List Int) (ad : List Bool) (fr : Int) (o : List Int) : Int :=
  if o.getD 0 0 = 2 then errRem zs fr (o.getD 1 0) else if o.getD 0 0 = 3 then errPro zs ad (o.getD 1 0) else if o.getD 0 0 = 4 then errDemR ad (o.getD 1 0) else errLim (o.getD 2 0)
/-- what an operation but Add leaves: tree, admins, threshold -/
def oneRz (zs : List Int) (o : List Int) : List Int := if o.getD 0 0 = 2 then putL zs [0, 0] (o.getD 1 0) else zs
def oneRa (ad : List Bool) (o : List Int) : List Bool := if o.getD 0 0 = 2 ∨ o.getD 0 0 = 4 then ad.set (o.getD 1 0).toNat false else if o.getD 0 0 = 3 then ad.set (o.getD 1 0).toNat true else ad
def oneRk (k : Int) (o : List Int) : Int := if o.getD 0 0 = 2 ∨ o.getD 0 0 = 3 ∨ o.getD 0 0 = 4 then k else o.getD 2 0
set_option maxHeartbeats 8000000 in
theorem rone_ok (e : Int) (zs : List Int) (ad : List Bool) (k : Int) (ch : List UInt8) (fr : Int) (o : List Int) :
    FnMO 46 0 (.var (vSegs e zs ad k ch)) [.v (.int .i64 fr), .agg [.ints .i64 5 o]] (.d (.v (.int .i64 (errOneR zs ad fr o))))
      (.var (if errOneR zs ad fr o = 0 then vSegs e (oneRz zs o) (oneRa ad o) (oneRk k o) ch else vSegs e zs ad k ch)) := by
  refine fnM_lens fun _ hl => ?_
  obtain ⟨a, b, c, d, f, rfl⟩ := five hl.1.1
  clear hl
  refine fnMA (E := envVp) Tryz.func46 Tryz.ntmps46 ?_
  by_cases h2 : a = 2
  · subst h2
    have e1 : errOneR zs ad fr [2, b, c, d, f] = errRem zs fr b := rfl
    have e2 : oneRz zs [2, b, c, d, f] = putL zs [0, 0] b := rfl
    have e3 : oneRa ad [2, b, c, d, f] = ad.set b.toNat false := rfl
    have e4 : oneRk k [2, b, c, d, f] = k := rfl
    rw [e1, e2, e3, e4]
    clear e1 e2 e3 e4
    cases hm : memB zs b with
    | false =>
      have he : errRem zs fr b = 7 := by simp [errRem, hm]
      rw [he, if_neg (by decide)]
      clear he
      refine agom ?_; (try with_reducible exact True.intro)
    | true =>
      by_cases hf : b = fr
      · subst hf
        have he : errRem zs b b = 7 := by simp [errRem]
        have hy : (b == b) = true := by simp
        rw [he, if_neg (by decide)]
        clear he
        refine agom ?_; (try with_reducible exact True.intro)
      · have hy : (b == fr) = false := by simpa using hf
        obtain ⟨h0, h1⟩ := memB_bd hm
        obtain ⟨n, rfl⟩ := Int.eq_ofNat_of_zero_le h0
        have he : errRem zs fr (n : Int) = 0 := by simp [errRem, hm, hf]
        rw [he, if_pos rfl, Int.toNat_natCast]
        clear he hf
        refine agom ?_; (try with_reducible exact True.intro)
  have n2 : (a == 2) = false := by simpa using h2
  by_cases h3 : a = 3
  · subst h3
    have e1 : errOneR zs ad fr [3, b, c, d, f] = errPro zs ad b := rfl
    have e2 : oneRz zs [3, b, c, d, f] = zs := rfl
    have e3 : oneRa ad [3, b, c, d, f] = ad.set b.toNat true := rfl
    have e4 : oneRk k [3, b, c, d, f] = k := rfl
    rw [e1, e2, e3, e4]
    clear e1 e2 e3 e4 h2
    cases hm : memB zs b with
    | false =>
      have he : errPro zs ad b = 7 := by simp [errPro, hm]
      rw [he, if_neg (by decide)]
      clear he
      refine agom ?_; (try with_reducible exact True.intro)
    | true =>
      obtain ⟨h0, h1⟩ := memB_bd hm
      obtain ⟨n, rfl⟩ := Int.eq_ofNat_of_zero_le h0
      cases ha : ad.getD n false with
      | true =>
        have he : errPro zs ad (n : Int) = 7 := by unfold errPro; rw [Int.toNat_natCast, ha]; simp
        rw [he, if_neg (by decide)]
        clear he
        refine agom ?_; (try with_reducible exact True.intro)
      | false =>
        have he : errPro zs ad (n : Int) = 0 := by unfold errPro; rw [Int.toNat_natCast, ha, hm]; simp
        rw [he, if_pos rfl, Int.toNat_natCast]
        clear he
        refine agom ?_; (try with_reducible exact True.intro)
  have n3 : (a == 3) = false := by simpa using h3
  by_cases h4 : a = 4
  · subst h4
    have e1 : errOneR zs ad fr [4, b, c, d, f] = errDemR ad b := rfl
    have e2 : oneRz zs [4, b, c, d, f] = zs := rfl
    have e3 : oneRa ad [4, b, c, d, f] = ad.set b.toNat false := rfl
    have e4 : oneRk k [4, b, c, d, f] = k := rfl
    rw [e1, e2, e3, e4]
    clear e1 e2 e3 e4 h2 h3
    by_cases h0 : b < 0
    · have he : errDemR ad b = 7 := by simp [errDemR, h0]
      rw [he, if_neg (by decide)]
      clear he
      refine agom ?_; (try with_reducible exact True.intro)
    · by_cases h1 : b ≥ 8
      · have he : errDemR ad b = 7 := by simp [errDemR, h1]
        rw [he, if_neg (by decide)]
        clear he
        refine agom ?_; (try with_reducible exact True.intro)
      · obtain ⟨n, rfl⟩ := Int.eq_ofNat_of_zero_le (show 0 ≤ b by omega)
        cases ha : ad.getD n false with
        | false =>
          have he : errDemR ad (n : Int) = 7 := by unfold errDemR; rw [Int.toNat_natCast, ha]; simp
          rw [he, if_neg (by decide)]
          clear he
          refine agom ?_; (try with_reducible exact True.intro)
        | true =>
          have he : errDemR ad (n : Int) = 0 := by unfold errDemR; rw [Int.toNat_natCast, ha, if_neg (by simp; omega)]
          rw [he, if_pos rfl, Int.toNat_natCast]
          clear he
          refine agom ?_; (try with_reducible exact True.intro)
  have n4 : (a == 4) = false := by simpa using h4
  have e1 : errOneR zs ad fr [a, b, c, d, f] = errLim c := by simp [errOneR, h2, h3, h4]
  have e2 : oneRz zs [a, b, c, d, f] = zs := by simp [oneRz, h2]
  have e3 : oneRa ad [a, b, c, d, f] = ad := by simp [oneRa, h2, h3, h4]
  have e4 : oneRk k [a, b, c, d, f] = c := by simp [oneRk, h2, h3, h4]
  rw [e1, e2, e3, e4]
  clear e1 e2 e3 e4 h2 h3 h4
  by_cases h0 : c < 1
  · have he : errLim c = 7 := by simp [errLim, h0]
    rw [he, if_neg (by decide)]
    clear he
    refine agom ?_; (try with_reducible exact True.intro)
  · by_cases h1 : c > 8
    · have he : errLim c = 7 := by simp [errLim, h1]
      rw [he, if_neg (by decide)]
      clear he
      refine agom ?_; (try with_reducible exact True.intro)
    · have he : errLim c = 0 := by simp [errLim, h0, h1]
      rw [he, if_pos rfl]
      clear he
      refine agom ?_; (try with_reducible exact True.intro)
def roneSM : Nat → Bk → List A → (Res → Bk → Prop) → Prop
  | 0, .var [.ints .i64 1 [e], .ints .i64 31 zs, .bools 8 ad, .ints .i64 1 [k], .bytes 32 ch], [.v (.int .i64 fr), .agg [.ints .i64 5 o]], K =>
    K (.d (.v (.int .i64 (errOneR zs ad fr o)))) (.var (if errOneR zs ad fr o = 0 then vSegs e (oneRz zs o) (oneRa ad o) (oneRk k o) ch else vSegs e zs ad k ch))
  | _, _, _, _ => False
theorem roneSM_ok : ∀ pos x args K, roneSM pos x args K → ∃ r x', FnMO 46 pos x args r x' ∧ K r x' := by
  intro pos x args K h
  unfold roneSM at h
  split at h
  · exact ⟨_, _, rone_ok _ _ _ _ _ _ _, h⟩
  · exact h.elim
noncomputable def envVq : EnvX := envVp.addM 46 roneSM roneSM_ok ⟨_, Tryz.func46, by kernel_rfl, by kernel_rfl⟩
end Go.Proofs.YtpemaphgmfaioaaGreat

/-
  Views: the document's operations are the program's, where admins are members.
-/
namespace Go.Proofs.YtpemaphgmfaioaaGreat
set_option maxRecDepth 100000
open Go.RowKit Pm
set_option linter.unusedVariables false
set_option linter.unusedSimpArgs false

theorem splice_get {zs xs : List Int} {a : Nat} (hx : xs.length = 2) (ha : a + 2 ≤ zs.length) (m : Nat) : (zs.take a ++ (xs ++ zs.drop (a + 2))).getD m 0 = if a ≤ m ∧ m < a + 2 then xs.getD (m - a) 0 else zs.getD m 0 := by
  simp only [List.getD_eq_getElem?_getD]
  have hl : (zs.take a).length = a := by rw [List.length_take]; omega
  by_cases h1 : m < a
  · rw [List.getElem?_append_left (by omega), List.getElem?_take, if_pos h1, if_neg (by omega)]
  · rw [List.getElem?_append_right (by omega), hl]
    by_cases h2 : m < a + 2
    · rw [List.getElem?_append_left (by omega), if_pos ⟨by omega, h2⟩]
    · rw [List.getElem?_append_right (by omega), List.getElem?_drop, if_neg (by omega), hx]
      congr 2
      omega
theorem leafP_two {zs : List Int} (hl : 16 ≤ zs.length) {j : Nat} (hj : j < 8) : leafP zs j = [zs.getD (j * 2) 0, zs.getD (j * 2 + 1) 0] := by
  rw [leafP_eq zs hj]
  refine List.ext_getElem (by simp; omega) fun i h1 h2 => ?_
  have hi : i = 0 ∨ i = 1 := by simp at h2; omega
  rcases hi with rfl | rfl
  · simp [List.getD_eq_getElem?_getD, show j * 2 < zs.length by omega]
  · simp [List.getD_eq_getElem?_getD, show j * 2 + 1 < zs.length by omega]
theorem putL_length {zs xs : List Int} {i : Int} (hz : zs.length = 31) (hx : xs.length = 2) : (putL zs xs i).length = 31 := by
  unfold putL
  split
  · next h =>
    have := leafB_t h
    simp [hx, hz]
    omega
  · rfl
theorem leafP_put {zs xs : List Int} (hz : zs.length = 31) (hx : xs.length = 2) {i j : Nat} (hi : i < 8) (hj : j < 8) : leafP (putL zs xs (i : Nat)) j = if j = i then xs else leafP zs j := by
  have hlb : leafB (i : Int) = true := by simp [leafB]; omega
  unfold putL
  rw [if_pos hlb, leafP_set _ hj (by omega), leafP_set _ hj (by omega), leafP_set _ hj (by omega), Int.toNat_natCast]
  have hl : 16 ≤ (zs.take (i * 2) ++ (xs ++ zs.drop (i * 2 + 2))).length := by simp [hx, hz]; omega
  rw [leafP_two hl hj, splice_get hx (by omega), splice_get hx (by omega), leafP_two (by omega) hj]
  by_cases e : j = i
  · subst e
    rw [if_pos (by omega), if_pos (by omega), if_pos rfl]
    obtain ⟨a, b, rfl⟩ := two hx
    simp
  · rw [if_neg (by omega), if_neg (by omega), if_neg e]
theorem memL_put {zs xs : List Int} (hz : zs.length = 31) (hx : xs.length = 2) {i j : Nat} (hi : i < 8) (hj : j < 8) : memL (putL zs xs (i : Nat)) j = if j = i then decide (xs ≠ [0, 0]) else memL zs j := by
  unfold memL
  rw [leafP_put hz hx hi hj]
  split <;> rfl
theorem admTo_iff (zs : List Int) (ad : List Bool) : admTo zs ad 8 = true ↔ ∀ i < 8, ad.getD i false = true → memL zs i = true := by
  unfold admTo
  rw [List.all_eq_true]
  constructor
  · intro h i hi ha
    have := h i (by simpa using hi)
    rw [ha] at this
    simpa using this
  · intro h i hi
    have hi' : i < 8 := by simpa using hi
    cases ha : ad.getD i false with
    | false => rfl
    | true => rw [h i hi' ha]; rfl
theorem getD_setB (l : List Bool) (i j : Nat) (x : Bool) : (l.set i x).getD j false = if i = j ∧ i < l.length then x else l.getD j false := getD_set_list l i x false j
/-- admins are members; so many cells -/
structure Inv (s : Vw) : Prop where
  adm : admTo s.zs s.ad 8 = true
  zl : s.zs.length = 31
  al : s.ad.length = 8
def errOpR (s : Vw) (fr : Int) (o : List Int) : Int := if o.getD 0 0 = 1 then errAdd s.zs [o.getD 3 0, o.getD 4 0] else errOneR s.zs s.ad fr o
def nextOpR (s : Vw) (o : List Int) : Vw :=
  if o.getD 0 0 = 1 then ⟨putL s.zs [o.getD 3 0, o.getD 4 0] (freeN s.zs : Nat), s.ad.set (freeN s.zs) false, s.k, s.ng.set (freeN s.zs) true, s.gn⟩
  else ⟨oneRz s.zs o, oneRa s.ad o, oneRk s.k o, if o.getD 0 0 = 2 then s.ng.set (o.getD 1 0).toNat false else s.ng, if o.getD 0 0 = 2 then s.gn.set (o.getD 1 0).toNat true else s.gn⟩
theorem errDem_same {zs : List Int} {ad : List Bool} (h : admTo zs ad 8 = true) (who : Int) : errDemR ad who = errDem zs ad who := by
  unfold errDemR errDem
  by_cases hb : 0 ≤ who ∧ who < 8
  · by_cases ha : ad.getD who.toNat false = true
    · have hm := (admTo_iff zs ad).1 h who.toNat (by omega) ha
      have hmb : memB zs who = true := by unfold memB; simp [leafB, hb.1, hb.2, hm]
      rw [if_neg (by rintro (h1 | h1 | h1); omega; omega; rw [ha] at h1; cases h1), if_neg (by rintro (h1 | h1); rw [hmb] at h1; cases h1; rw [ha] at h1; cases h1)]
    · have ha' : ad.getD who.toNat false = false := by simpa using ha
      rw [if_pos (.inr (.inr ha')), if_pos (.inr ha')]
  · have hmb : memB zs who = false := by
      cases hm : memB zs who with
      | false => rfl
      | true => exact absurd (memB_bd hm) hb
    rw [if_pos (by omega), if_pos (.inl hmb)]
theorem errOp_same {s : Vw} (h : Inv s) (fr : Int) (o : List Int) : errOpR s fr o = errOp s fr o := by
  unfold errOpR errOp errOneR
  split
  · rfl
  · split
    · rfl
    · split
      · rfl
      · split
        · exact errDem_same h.adm _
        · rfl
theorem set_same {l : List Bool} {i : Nat} (h : l.getD i false = false) : l.set i false = l := by
  refine List.ext_getElem (by simp) fun j h1 h2 => ?_
  rw [List.getElem_set]
  split
  · next e =>
    subst e
    simpa [List.getD_eq_getElem?_getD, h2] using h.symm
  · rfl
theorem errAdd_0 {zs : List Int} {a b : Int} (h : errAdd zs [a, b] = 0) : fullB zs = false ∧ isI a = true ∧ isI b = true := by
  unfold errAdd at h
  simp only [List.getD_cons_zero, List.getD_cons_succ] at h
  split at h
  · next h1 =>
    split at h
    · cases h
    · split at h
      · cases h
      · next h3 => exact ⟨by simpa using h3, by simpa using h1⟩
  · cases h
theorem nextOp_same {s : Vw} (h : Inv s) (fr : Int) {o : List Int} (he : errOp s fr o = 0) : nextOpR s o = nextOp s o := by
  unfold nextOpR nextOp oneRz oneRa oneRk
  by_cases h1 : o.getD 0 0 = 1
  · rw [if_pos h1, if_pos h1]
    have he' : errAdd s.zs [o.getD 3 0, o.getD 4 0] = 0 := by unfold errOp at he; rw [if_pos h1] at he; exact he
    obtain ⟨hf, _⟩ := errAdd_0 he'
    obtain ⟨hf8, hfm⟩ := free_lt hf
    have ha : s.ad.getD (freeN s.zs) false = false := by
      cases hq : s.ad.getD (freeN s.zs) false with
      | false => rfl
      | true => rw [(admTo_iff _ _).1 h.adm _ hf8 hq] at hfm; cases hfm
    rw [set_same ha]
  · rw [if_neg h1, if_neg h1]
    clear he
    generalize o.getD 0 0 = c at *
    generalize o.getD 1 0 = w at *
    generalize o.getD 2 0 = y at *
    by_cases h2 : c = 2
    · simp only [h2, true_or, if_true]
    · by_cases h3 : c = 3
      · simp [h3]
      · by_cases h4 : c = 4
        · simp [h4]
        · simp [h2, h3, h4]
theorem nextOp_inv {s : Vw} (h : Inv s) (fr : Int) {o : List Int} (he : errOp s fr o = 0) : Inv (nextOp s o) := by
  have hA := (admTo_iff _ _).1 h.adm
  unfold nextOp
  unfold errOp at he
  by_cases h1 : o.getD 0 0 = 1
  · rw [if_pos h1] at he ⊢
    obtain ⟨hf, hi1, hi2⟩ := errAdd_0 he
    obtain ⟨hf8, hfm⟩ := free_lt hf
    refine ⟨(admTo_iff _ _).2 fun i hi ha => ?_, putL_length h.zl rfl, h.al⟩
    show memL (putL s.zs _ _) i = true
    rw [memL_put h.zl rfl hf8 hi]
    split
    · exact decide_eq_true fun e => isI_ne hi1 (List.cons.inj e).1
    · exact hA i hi ha
  rw [if_neg h1] at he ⊢
  by_cases h2 : o.getD 0 0 = 2
  · rw [if_pos h2] at he ⊢
    unfold errRem at he
    have hm : memB s.zs (o.getD 1 0) = true := by
      cases hq : memB s.zs (o.getD 1 0) with
      | true => rfl
      | false => rw [if_pos (.inr hq)] at he; cases he
    obtain ⟨hb0, hb1⟩ := memB_bd hm
    obtain ⟨n, hn⟩ := Int.eq_ofNat_of_zero_le hb0
    rw [hn] at hb1 ⊢
    refine ⟨(admTo_iff _ _).2 fun i hi ha => ?_, putL_length h.zl rfl, by simp [h.al]⟩
    have ha' : (s.ad.set n false).getD i false = true := ha
    rw [getD_setB] at ha'
    show memL (putL s.zs _ _) i = true
    rw [memL_put h.zl rfl (by omega) hi]
    split
    · next e => rw [if_pos ⟨e.symm, by rw [h.al]; omega⟩] at ha'; cases ha'
    · next e => rw [if_neg (by rintro ⟨e2, _⟩; exact e e2.symm)] at ha'; exact hA i hi ha'
  rw [if_neg h2] at he ⊢
  by_cases h3 : o.getD 0 0 = 3
  · rw [if_pos h3] at he ⊢
    unfold errPro at he
    have hm : memB s.zs (o.getD 1 0) = true := by
      cases hq : memB s.zs (o.getD 1 0) with
      | true => rfl
      | false => rw [if_pos (.inl hq)] at he; cases he
    refine ⟨(admTo_iff _ _).2 fun i hi ha => ?_, h.zl, by simp [h.al]⟩
    have ha' : (s.ad.set (o.getD 1 0).toNat true).getD i false = true := ha
    rw [getD_setB] at ha'
    split at ha'
    · next e =>
      unfold memB at hm
      simp only [Bool.and_eq_true] at hm
      rw [← e.1]; exact hm.2
    · exact hA i hi ha'
  rw [if_neg h3] at he ⊢
  by_cases h4 : o.getD 0 0 = 4
  · rw [if_pos h4] at he ⊢
    refine ⟨(admTo_iff _ _).2 fun i hi ha => ?_, h.zl, by simp [h.al]⟩
    have ha' : (s.ad.set (o.getD 1 0).toNat false).getD i false = true := ha
    rw [getD_setB] at ha'
    split at ha'
    · cases ha'
    · exact hA i hi ha'
  rw [if_neg h4] at he ⊢
  exact ⟨h.adm, h.zl, h.al⟩
theorem mayV_inv {e : Int} {zs : List Int} {ad : List Bool} {k : Int} {ng gn : List Bool} (h : mayV e zs ad k = true) (h1 : zs.length = 31) (h2 : ad.length = 8) : Inv ⟨zs, ad, k, ng, gn⟩ := by
  unfold mayV at h
  simp only [Bool.and_eq_true] at h
  exact ⟨h.1.1.2, h1, h2⟩
end Go.Proofs.YtpemaphgmfaioaaGreat

/-
  Views: operations done, as the document does them.
-/
namespace Go.Proofs.YtpemaphgmfaioaaGreat
set_option maxRecDepth 100000
open Go.RowKit Pm
set_option linter.unusedVariables false
set_option linter.unusedSimpArgs false
attribute [local irreducible] condK LoopA regA isI memTo memL freeN usedB fullB putL errAdd isT memB errOneR oneRz oneRa oneRk mayV oddTo cntB runE opAt ownB

def raddSM2 : Nat → Bk → List A → (Res → Bk → Prop) → Prop
  | 0, .var [.ints .i64 1 [e], .ints .i64 31 zs, .bools 8 ad, .ints .i64 1 [k], .bytes 32 ch], [.agg [.ints .i64 2 xs]], K =>
    StopC (condK (decide (errAdd zs xs = 0)) (K (.t [.v (.int .i64 ((freeN zs : Nat) : Int)), .v (.int .i64 0)]) (.var (vSegs e (putL zs xs (freeN zs : Nat)) (ad.set (freeN zs) false) k ch))) (K (.t [.v (.int .i64 0), .v (.int .i64 (errAdd zs xs))]) (.var (vSegs e zs ad k ch))))
  | _, _, _, _ => False
theorem raddSM2_ok : ∀ pos x args K, raddSM2 pos x args K → ∃ r x', FnMO 45 pos x args r x' ∧ K r x' := by
  intro pos x args K h
  unfold raddSM2 at h
  split at h
  · next e zs ad k ch xs =>
    have h := h.out
    have ho := radd_ok e zs ad k ch xs
    by_cases he : errAdd zs xs = 0
    · rw [decide_eq_true he, condK_true] at h
      rw [if_pos he, if_pos he, he] at ho
      exact ⟨_, _, ho, h⟩
    · rw [decide_eq_false he, condK_false] at h
      rw [if_neg he, if_neg he] at ho
      exact ⟨_, _, ho, h⟩
  · exact h.elim
def roneSM2 : Nat → Bk → List A → (Res → Bk → Prop) → Prop
  | 0, .var [.ints .i64 1 [e], .ints .i64 31 zs, .bools 8 ad, .ints .i64 1 [k], .bytes 32 ch], [.v (.int .i64 fr), .agg [.ints .i64 5 o]], K =>
    StopC (condK (decide (errOneR zs ad fr o = 0)) (K (.d (.v (.int .i64 0))) (.var (vSegs e (oneRz zs o) (oneRa ad o) (oneRk k o) ch))) (K (.d (.v (.int .i64 (errOneR zs ad fr o)))) (.var (vSegs e zs ad k ch))))
  | _, _, _, _ => False
theorem roneSM2_ok : ∀ pos x args K, roneSM2 pos x args K → ∃ r x', FnMO 46 pos x args r x' ∧ K r x' := by
  intro pos x args K h
  unfold roneSM2 at h
  split at h
  · next e zs ad k ch fr o =>
    have h := h.out
    have ho := rone_ok e zs ad k ch fr o
    by_cases he : errOneR zs ad fr o = 0
    · rw [decide_eq_true he, condK_true] at h
      rw [if_pos he, he] at ho
      exact ⟨_, _, ho, h⟩
    · rw [decide_eq_false he, condK_false] at h
      rw [if_neg he] at ho
      exact ⟨_, _, ho, h⟩
  · exact h.elim
noncomputable def envVr : EnvX := envVo.addM 45 raddSM2 raddSM2_ok ⟨_, Tryz.func45, by kernel_rfl, by kernel_rfl⟩
noncomputable def envVs : EnvX := envVr.addM 46 roneSM2 roneSM2_ok ⟨_, Tryz.func46, by kernel_rfl, by kernel_rfl⟩
theorem oddTo_step (ops : List Int) (i : Nat) : oddTo ops (i + 1) = (oddTo ops i || !ownB (opAt ops i)) := by
  unfold oddTo
  rw [List.range_succ, List.any_append]
  simp
theorem oddTo_mono (ops : List Int) : ∀ (d i : Nat), oddTo ops i = true → oddTo ops (i + d) = true
  | 0, i, h => h
  | d + 1, i, h => by
    rw [← Nat.add_assoc, oddTo_step, oddTo_mono ops d i h]; rfl
/-- the answer out of what was done -/
def resV (e : Int) (ch : List UInt8) (d : Int × Vw) : List A :=
  if d.1 = 0 then [.agg (vSegs e d.2.zs d.2.ad d.2.k ch), .agg [.bools 8 d.2.ng], .agg [.bools 8 d.2.gn], .v (.int .i64 0)] else [.agg vZero, .agg [.bools 8 F8], .agg [.bools 8 F8], .v (.int .i64 d.1)]
theorem appR_eq (e : Int) (zs : List Int) (ad : List Bool) (k : Int) (ch : List UInt8) (fr : Int) (ops : List Int) (n : Nat) : appR e zs ad k ch fr ops n = resV e ch (doR e ⟨zs, ad, k, F8, F8⟩ fr ops n) := rfl
theorem op_parts {ops : List Int} {i j : Nat} (hol : ops.length = i * 5) (hj : j < i) : (opAt ops j).getD 0 0 = ops.getD (j * 5) 0 ∧ (opAt ops j).getD 1 0 = ops.getD (j * 5 + 1) 0 ∧ (ops.drop (j * 5 + 3)).take 2 = [(opAt ops j).getD 3 0, (opAt ops j).getD 4 0] := by
  have hoe : opAt ops j = (ops.drop (j * 5)).take 5 := by unfold opAt; rfl
  rw [hoe]
  refine ⟨by simp [List.getD_eq_getElem?_getD], by simp [List.getD_eq_getElem?_getD], List.ext_getElem (by simp; omega) fun m h1 h2 => ?_⟩
  have hm : m = 0 ∨ m = 1 := by simp at h2; omega
  rcases hm with rfl | rfl
  · simp [List.getD_eq_getElem?_getD, show j * 5 + 3 < ops.length by omega]
  · simp [List.getD_eq_getElem?_getD, show j * 5 + 4 < ops.length by omega, show j * 5 + 3 + 1 = j * 5 + 4 by omega]
set_option maxHeartbeats 4000000 in
theorem rapply_ok (e : Int) (zs : List Int) (ad : List Bool) (k : Int) (ch : List UInt8) (fr : Int) (ops : List Int) (n : Nat) (hn : n ≤ 1000000) :
    FnO 19 [.agg (vSegs e zs ad k ch), .v (.int .i64 fr), .row n [.ints .i64 (n * 5) ops]] (.t (appR e zs ad k ch fr ops n)) := by
  refine fn_lens fun hl => ?_
  obtain ⟨⟨_, hzl, hal, _, _, _⟩, ⟨hol, _⟩, _⟩ := hl
  rw [appR_eq]
  refine fnA (E := envVs) Tryz.func19 Tryz.ntmps19 ?_
  cases hV : mayV e zs ad k with
  | false =>
    have hr : doR e ⟨zs, ad, k, F8, F8⟩ fr ops n = (1, ⟨zs, ad, k, F8, F8⟩) := by simp [doR, hV]
    rw [hr]
    clear hr
    refine agom ?_; (try with_reducible exact True.intro)
    refine StopL.mk (loop_unroll 1 ?_)
    by_cases hn0 : n = 0
    · subst hn0
      refine agom ?_; (try with_reducible exact True.intro)
      rfl
    · have hn1 : (0 : Int) < (n : Int) := by omega
      refine agom ?_; (try with_reducible exact True.intro)
      rfl
  | true =>
  by_cases h4 : n > 4
  · have hr : doR e ⟨zs, ad, k, F8, F8⟩ fr ops n = (1, ⟨zs, ad, k, F8, F8⟩) := by simp [doR, hV, h4]
    have h41 : decide ((n : Int) > 4) = true := by simp; omega
    have h40 : (0 : Int) < (n : Int) := by omega
    rw [hr]
    clear hr
    refine agom ?_; (try with_reducible exact True.intro)
    refine StopL.mk (loop_unroll 1 ?_)
    refine agom ?_; (try with_reducible exact True.intro)
    rfl
  have h41 : decide ((n : Int) > 4) = false := by simp; omega
  have h42 : decide ((n : Int) ≤ 4) = !oddTo ops 0 := by
    have : oddTo ops 0 = false := by unfold oddTo; rfl
    rw [this]; simp; omega
  refine agom ?_; (try with_reducible exact True.intro)
  refine StopL.mk (loop_inv [1, 2, 3, 6, 7, 8, 10, 11, 12, 13, 14] 7 (fun st => ∃ i : Nat, i ≤ n ∧ ∃ b : Bool, b = !oddTo ops i ∧ st = ⟨[.dead, .d (.v (.int .i64 fr)), .d (.row n [.ints .i64 (n * 5) ops]), .ptr 0 0, .dead, .dead, .ptr 1 0, .ptr 2 0, .ptr 3 0, .dead, .ptr 4 0, .ptr 5 0, .ptr 6 0, .d (.v (.bool b)), .d (.v (.int .i64 (i : Nat))), .dead, .dead, .dead, .dead, .dead, .dead, .dead, .dead, .dead, .dead, .dead, .dead, .dead, .dead, .dead, .dead, .dead, .dead, .dead, .dead, .dead, .dead, .dead, .dead, .dead, .dead, .dead, .dead, .dead, .dead, .dead, .dead, .dead, .dead, .dead, .dead, .dead, .dead, .dead, .dead, .dead, .dead, .dead, .dead, .dead, .dead, .dead, .dead, .dead, .dead, .dead, .dead, .dead, .dead, .dead, .dead, .dead, .dead, .dead, .dead, .dead, .dead, .dead, .dead, .dead, .dead, .dead, .dead, .dead, .dead, .dead, .dead, .dead, .dead, .dead, .dead, .dead, .dead, .dead, .dead, .dead, .dead, .dead, .dead, .dead, .dead, .dead, .dead, .dead, .dead, .dead, .dead, .dead, .dead, .dead, .dead, .dead, .dead, .dead, .dead, .dead, .dead, .dead, .dead, .dead, .dead, .dead, .dead, .dead, .dead, .dead], [some (.var (vSegs e zs ad k ch)), some (.var vZero), some (.var [.bools 8 F8]), some (.var [.bools 8 F8]), some (.var [.bools 8 F8]), some (.var [.bools 8 F8]), some (.var [.bools 8 F8])]⟩) (fun s => n - intAt s 14) rfl ⟨0, by omega, decide ((n : Int) ≤ 4), h42, rfl⟩ ?_)
  clear h42
  rintro st ⟨i, hi, b, hb, rfl⟩
  have hw : IntKind.i64.wrap ((i : Int) + 1) = ((i + 1 : Nat) : Int) := by rw [wrapS (by omega) (by omega)]; omega
  have hbad : b = false → doR e ⟨zs, ad, k, F8, F8⟩ fr ops n = (1, ⟨zs, ad, k, F8, F8⟩) := by
    intro hb0
    have hO : oddTo ops n = true := by
      have h1 : oddTo ops i = true := by rw [hb0] at hb; cases h : oddTo ops i with
        | true => rfl
        | false => rw [h] at hb; cases hb
      have h2 := oddTo_mono ops (n - i) i h1
      rwa [show i + (n - i) = n by omega] at h2
    simp [doR, hO]
  by_cases hi2 : i < n
  · have hlt : decide ((i : Int) < (n : Int)) = true := by simp; omega
    cases b with
    | true =>
      clear hbad
      refine agom ?_; (try with_reducible exact True.intro)
      have hop : opAt ops i = (ops.drop (i * 5)).take 5 := by unfold opAt; rfl
      refine ⟨⟨i + 1, by omega, ownB ((ops.drop (i * 5)).take 5), ?_, by rw [← hw]; rfl⟩, ?_⟩
      · rw [oddTo_step, ← hop]
        cases h : oddTo ops i with
        | true => rw [h] at hb; cases hb
        | false => cases ownB (opAt ops i) <;> rfl
      · show n - (IntKind.i64.wrap ((i : Int) + 1)).toNat < n - (i : Int).toNat
        rw [hw]; omega
    | false =>
      rw [hbad rfl]
      clear hbad hb
      refine agom ?_; (try with_reducible exact True.intro)
      rfl
  · obtain rfl : i = n := by omega
    have hlt : decide ((i : Int) < (i : Int)) = false := by simp
    cases b with
    | false =>
      rw [hbad rfl]
      clear hbad hb
      refine agom ?_; (try with_reducible exact True.intro)
      rfl
    | true =>
      clear hbad hw hi hi2
      have hO : oddTo ops i = false := by
        cases h : oddTo ops i with
        | true => rw [h] at hb; cases hb
        | false => rfl
      clear hb
      cases hM : memB zs fr with
      | false =>
        have hr : doR e ⟨zs, ad, k, F8, F8⟩ fr ops i = (6, ⟨zs, ad, k, F8, F8⟩) := by simp [doR, hV, h4, hO, hM]
        rw [hr]
        clear hr
        refine agom ?_; (try with_reducible exact True.intro)
        rfl
      | true =>
        have hI : Inv ⟨zs, ad, k, F8, F8⟩ := mayV_inv hV hzl hal
        have hr : doR e ⟨zs, ad, k, F8, F8⟩ fr ops i = (if (runE fr ops i 0 ⟨zs, ad, k, F8, F8⟩).1 ≠ 0 then runE fr ops i 0 ⟨zs, ad, k, F8, F8⟩ else if ((cntB (runE fr ops i 0 ⟨zs, ad, k, F8, F8⟩).2.ad : Nat) : Int) < (runE fr ops i 0 ⟨zs, ad, k, F8, F8⟩).2.k then (7, (runE fr ops i 0 ⟨zs, ad, k, F8, F8⟩).2) else (0, (runE fr ops i 0 ⟨zs, ad, k, F8, F8⟩).2)) := by
          simp only [doR, hV, hO, hM, decide_eq_false h4]
          simp
        rw [hr]
        clear hr
        refine agom ?_; (try with_reducible exact True.intro)
        have hR0 : runE fr ops i 0 ⟨zs, ad, k, F8, F8⟩ = runE fr ops i 0 ⟨zs, ad, k, F8, F8⟩ := rfl
        generalize hR : runE fr ops i 0 ⟨zs, ad, k, F8, F8⟩ = R at *
        refine StopL.mk (loop_inv [1, 2, 3, 6, 7, 8, 10, 11, 12, 15] 7 (fun st => ∃ j : Nat, j ≤ i ∧ ∃ q : Vw, Inv q ∧ runE fr ops (i - j) j q = R ∧ st = ⟨[.dead, .d (.v (.int .i64 fr)), .d (.row i [.ints .i64 (i * 5) ops]), .ptr 0 0, .dead, .dead, .ptr 1 0, .ptr 2 0, .ptr 3 0, .dead, .ptr 4 0, .ptr 5 0, .ptr 6 0, .dead, .dead, .d (.v (.int .i64 (j : Nat))), .dead, .dead, .dead, .dead, .dead, .dead, .dead, .dead, .dead, .dead, .dead, .dead, .dead, .dead, .dead, .dead, .dead, .dead, .dead, .dead, .dead, .dead, .dead, .dead, .dead, .dead, .dead, .dead, .dead, .dead, .dead, .dead, .dead, .dead, .dead, .dead, .dead, .dead, .dead, .dead, .dead, .dead, .dead, .dead, .dead, .dead, .dead, .dead, .dead, .dead, .dead, .dead, .dead, .dead, .dead, .dead, .dead, .dead, .dead, .dead, .dead, .dead, .dead, .dead, .dead, .dead, .dead, .dead, .dead, .dead, .dead, .dead, .dead, .dead, .dead, .dead, .dead, .dead, .dead, .dead, .dead, .dead, .dead, .dead, .dead, .dead, .dead, .dead, .dead, .dead, .dead, .dead, .dead, .dead, .dead, .dead, .dead, .dead, .dead, .dead, .dead, .dead, .dead, .dead, .dead, .dead, .dead, .dead, .dead, .dead], [some (.var (vSegs e q.zs q.ad q.k ch)), some (.var vZero), some (.var [.bools 8 F8]), some (.var [.bools 8 F8]), some (.var [.bools 8 q.ng]), some (.var [.bools 8 q.gn]), some (.var [.bools 8 F8])]⟩) (fun s => i - intAt s 15) rfl ⟨0, by omega, _, hI, hR, rfl⟩ ?_)
        clear hR hR0 hV h41 h4 hO hM hI hlt hzl hal
        rintro st ⟨j, hj, ⟨zs, ad, k, ng, gn⟩, hI, hrun, rfl⟩
        have hw : IntKind.i64.wrap ((j : Int) + 1) = ((j + 1 : Nat) : Int) := by rw [wrapS (by omega) (by omega)]; omega
        by_cases hj2 : j < i
        · have hlt : decide ((j : Int) < (i : Int)) = true := by simp; omega
          obtain ⟨d, hd⟩ : ∃ d, i - j = d + 1 := ⟨i - j - 1, by omega⟩
          rw [hd] at hrun
          unfold runE at hrun
          obtain ⟨g0, g1, g3⟩ := op_parts hol hj2
          by_cases k1 : ops.getD (j * 5) 0 = 1
          · have hk1 : (ops.getD (j * 5) 0 == 1) = true := by simpa using k1
            have ee : errOp ⟨zs, ad, k, ng, gn⟩ fr (opAt ops j) = errAdd zs ((ops.drop (j * 5 + 3)).take 2) := by
              unfold errOp; rw [if_pos (by rw [g0]; exact k1), g3]
            by_cases he : errAdd zs ((ops.drop (j * 5 + 3)).take 2) = 0
            · have he1 : decide (errAdd zs ((ops.drop (j * 5 + 3)).take 2) = 0) = true := decide_eq_true he
              have hf8 : freeN zs < 8 := by
                rw [g3] at he
                exact (free_lt (errAdd_0 he).1).1
              have he' : errOp ⟨zs, ad, k, ng, gn⟩ fr (opAt ops j) = 0 := by rw [ee]; exact he
              have nx : nextOp ⟨zs, ad, k, ng, gn⟩ (opAt ops j) = ⟨putL zs ((ops.drop (j * 5 + 3)).take 2) (freeN zs : Nat), ad.set (freeN zs) false, k, ng.set (freeN zs) true, gn⟩ := by
                rw [← nextOp_same hI fr he']; unfold nextOpR; rw [if_pos (by rw [g0]; exact k1), ← g3]
              have hI' := nextOp_inv hI fr he'
              rw [nx] at hI'
              rw [if_pos he', nx] at hrun
              clear nx he' ee g0 g1 g3
              cases hg : ng.getD (freeN zs) false with
              | true =>
                refine agom ?_; (try with_reducible exact True.intro)
                refine ⟨⟨j + 1, by omega, _, hI', by rw [show i - (j + 1) = d by omega]; exact hrun, by rw [← hw]; rfl⟩, ?_⟩
                show i - (IntKind.i64.wrap ((j : Int) + 1)).toNat < i - (j : Int).toNat
                rw [hw]; omega
              | false =>
                refine agom ?_; (try with_reducible exact True.intro)
                refine ⟨⟨j + 1, by omega, _, hI', by rw [show i - (j + 1) = d by omega]; exact hrun, by rw [← hw]; rfl⟩, ?_⟩
                show i - (IntKind.i64.wrap ((j : Int) + 1)).toNat < i - (j : Int).toNat
                rw [hw]; omega
            · have he1 : decide (errAdd zs ((ops.drop (j * 5 + 3)).take 2) = 0) = false := decide_eq_false he
              have he2 : (errAdd zs ((ops.drop (j * 5 + 3)).take 2) == 0) = false := by simpa using he
              have he3 : (errAdd zs ((ops.drop (j * 5 + 3)).take 2) != 0) = true := by simpa using he
              have he' : errOp ⟨zs, ad, k, ng, gn⟩ fr (opAt ops j) ≠ 0 := by rw [ee]; exact he
              rw [if_neg he'] at hrun
              rw [← hrun, if_pos he', ee]
              clear ee g0 g1 g3 he' hrun
              cases hg : ng.getD 0 false with
              | true =>
                refine agom ?_; (try with_reducible exact True.intro)
                exact (congrArg Res.t (show resV e ch (_, _) = _ from if_neg he)).symm
              | false =>
                refine agom ?_; (try with_reducible exact True.intro)
                exact (congrArg Res.t (show resV e ch (_, _) = _ from if_neg he)).symm
          · have hk1 : (ops.getD (j * 5) 0 == 1) = false := by simpa using k1
            have ee : errOneR zs ad fr ((ops.drop (j * 5)).take 5) = errOp ⟨zs, ad, k, ng, gn⟩ fr (opAt ops j) := by
              rw [← errOp_same hI, errOpR, if_neg (by rw [g0]; exact k1)]
              unfold opAt; rfl
            by_cases he : errOneR zs ad fr ((ops.drop (j * 5)).take 5) = 0
            · have he1 : decide (errOneR zs ad fr ((ops.drop (j * 5)).take 5) = 0) = true := decide_eq_true he
              have he' : errOp ⟨zs, ad, k, ng, gn⟩ fr (opAt ops j) = 0 := by rw [← ee]; exact he
              have hI' := nextOp_inv hI fr he'
              rw [if_pos he'] at hrun
              by_cases k2 : ops.getD (j * 5) 0 = 2
              · have hk2 : (ops.getD (j * 5) 0 == 2) = true := by simpa using k2
                have nx : nextOp ⟨zs, ad, k, ng, gn⟩ (opAt ops j) = ⟨oneRz zs ((ops.drop (j * 5)).take 5), oneRa ad ((ops.drop (j * 5)).take 5), oneRk k ((ops.drop (j * 5)).take 5), ng.set (ops.getD (j * 5 + 1) 0).toNat false, gn.set (ops.getD (j * 5 + 1) 0).toNat true⟩ := by
                  rw [← nextOp_same hI fr he']; unfold nextOpR; rw [if_neg (by rw [g0]; exact k1), if_pos (by rw [g0]; exact k2), if_pos (by rw [g0]; exact k2), g1]
                  unfold opAt; rfl
                have hb : 0 ≤ ops.getD (j * 5 + 1) 0 ∧ ops.getD (j * 5 + 1) 0 < 8 := by
                  unfold errOp errRem at he'
                  rw [if_neg (by rw [g0]; exact k1), if_pos (by rw [g0]; exact k2), g1] at he'
                  have hm : memB zs (ops.getD (j * 5 + 1) 0) = true := by
                    cases hq : memB zs (ops.getD (j * 5 + 1) 0) with
                    | true => rfl
                    | false => rw [if_pos (.inr hq)] at he'; cases he'
                  exact memB_bd hm
                obtain ⟨hb0, hb1⟩ := hb
                rw [nx] at hI' hrun
                clear nx he' ee g0 g1 g3
                refine agom ?_; (try with_reducible exact True.intro)
                refine ⟨⟨j + 1, by omega, _, hI', by rw [show i - (j + 1) = d by omega]; exact hrun, by rw [← hw]; rfl⟩, ?_⟩
                show i - (IntKind.i64.wrap ((j : Int) + 1)).toNat < i - (j : Int).toNat
                rw [hw]; omega
              · have hk2 : (ops.getD (j * 5) 0 == 2) = false := by simpa using k2
                have nx : nextOp ⟨zs, ad, k, ng, gn⟩ (opAt ops j) = ⟨oneRz zs ((ops.drop (j * 5)).take 5), oneRa ad ((ops.drop (j * 5)).take 5), oneRk k ((ops.drop (j * 5)).take 5), ng, gn⟩ := by
                  rw [← nextOp_same hI fr he']; unfold nextOpR; rw [if_neg (by rw [g0]; exact k1), if_neg (by rw [g0]; exact k2), if_neg (by rw [g0]; exact k2)]
                  unfold opAt; rfl
                rw [nx] at hI' hrun
                clear nx he' ee g0 g1 g3
                refine agom ?_; (try with_reducible exact True.intro)
                refine ⟨⟨j + 1, by omega, _, hI', by rw [show i - (j + 1) = d by omega]; exact hrun, by rw [← hw]; rfl⟩, ?_⟩
                show i - (IntKind.i64.wrap ((j : Int) + 1)).toNat < i - (j : Int).toNat
                rw [hw]; omega
            · have he1 : decide (errOneR zs ad fr ((ops.drop (j * 5)).take 5) = 0) = false := decide_eq_false he
              have he2 : (errOneR zs ad fr ((ops.drop (j * 5)).take 5) == 0) = false := by simpa using he
              have he3 : (errOneR zs ad fr ((ops.drop (j * 5)).take 5) != 0) = true := by simpa using he
              have he' : errOp ⟨zs, ad, k, ng, gn⟩ fr (opAt ops j) ≠ 0 := by rw [← ee]; exact he
              rw [if_neg he'] at hrun
              rw [← hrun, if_pos he', ← ee]
              clear ee g0 g1 g3 he' hrun
              refine agom ?_; (try with_reducible exact True.intro)
              exact (congrArg Res.t (show resV e ch (_, _) = _ from if_neg he)).symm
        · obtain rfl : j = i := by omega
          have hlt : decide ((j : Int) < (j : Int)) = false := by simp
          rw [Nat.sub_self] at hrun
          unfold runE at hrun
          subst hrun
          rw [if_neg (by simp)]
          by_cases hc : ((cntB ad : Nat) : Int) < k
          · have hc1 : decide (((cntB ad : Nat) : Int) < k) = true := decide_eq_true hc
            rw [if_pos hc]
            refine agom ?_; (try with_reducible exact True.intro)
            rfl
          · have hc1 : decide (((cntB ad : Nat) : Int) < k) = false := decide_eq_false hc
            rw [if_neg hc]
            refine agom ?_; (try with_reducible exact True.intro)
            rfl
end Go.Proofs.YtpemaphgmfaioaaGreat
