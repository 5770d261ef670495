/-
  Audits: the law of forks.
-/
import Derived.Test.YtegjkfaokpjojaaGreatDoorJ50
import Derived.Lib.Hide
namespace Go.Proofs.YtegjkfaokpjojaaGreatDoor
set_option maxRecDepth 100000
set_option pp.deepTerms true
set_option pp.maxSteps 1000000
open Go.RowKit Pm
set_option linter.unusedVariables false
set_option linter.unusedSimpArgs false
attribute [local irreducible] condK LoopA regA powI scal mulI isI fourB deriveW numB numsB bodyB nodeW nextW viewHV doR chkV planL sealB boxD keyZ helD commonI placeI apE doP comE comP nextP joinP upW lefW tagE expW memTo createP enterP getM hasM putM mapG z480 xOf sgL leafZ sgnW welSegs welF

theorem forks_eq (p q r : PS) : agreeB [some p, some q, some r] = agreeX [some (xOf p), some (xOf q), some (xOf r)] := (agree_eq [some p, some q, some r]).symm
set_option maxHeartbeats 4000000 in
theorem auditForks_ok (a b : Int) : FnO 4 [.v (.int .i64 a), .v (.int .i64 b)] (.d (.v (.bool true))) := by
  refine fnA (E := envAuf) Tryz.func4 Tryz.ntmps4 ?_
  obtain ⟨a0, a1⟩ := u8_rng a
  obtain ⟨b0, b1⟩ := u8_rng b
  refine agow ?_; (try with_reducible exact True.intro)
  intro s1 hs1
  refine agow ?_; (try with_reducible exact True.intro)
  intro p hp
  refine agow ?_; (try with_reducible exact True.intro)
  intro s2 hs2
  refine agow ?_; (try with_reducible exact True.intro)
  intro q hq
  refine agow ?_; (try with_reducible exact True.intro)
  intro s3 hs3
  refine agow ?_; (try with_reducible exact True.intro)
  intro x hx
  obtain rfl : q = p := by rw [hp, hq, hs1, hs2]
  obtain rfl : x = xOf q := by rw [hx, hq, hs2, hs3]
  have hO : Own q := by rw [hq]; exact create_own _
  have he : q.e = 0 := kn_e hq
  obtain ⟨hc0, hd0⟩ := com_nil hO (by omega)
  have ht := agree_two q
  have hA := (next_nil hO (by omega) (byteU a)).1
  have hlf : leafB q.lf = true := by have x0 := hO.inv.lf0; have x1 := hO.inv.lf1; simp [leafB, x0, x1]
  have HC := Lib.hid hc0
  clear hp hq hx hs1 hs2 hs3 hc0 hd0 he
  refine agow ?_; (try with_reducible exact True.intro)
  intro t htt
  have htt : t = true := htt.trans ht
  subst htt
  clear ht
  refine agow ?_; (try with_reducible exact True.intro)
  intro e1 he1
  have hc1 : decide (e1 = 0) = true := by rw [he1, HC.out]; rfl
  clear he1
  refine agow ?_; (try with_reducible exact True.intro)
  intro sA cA qA NA WA hsA hcA hqA hNA hWA
  have hqA : qA = nextP q (doP q q.lf 0 []) 0 [] 0 [] (byteU a) := by rw [hqA, hsA]; rfl
  rw [← hqA] at hA
  have HQA := Lib.hid hqA
  clear hsA hcA hqA hNA hWA hc1
  refine agow ?_; (try with_reducible exact True.intro)
  intro e2 he2
  have hc2 : decide (e2 = 0) = true := by rw [he2, HC.out]; rfl
  clear he2
  refine agow ?_; (try with_reducible exact True.intro)
  intro sB cB qB NB WB hsB hcB hqB hNB hWB
  have hqB : qB = nextP q (doP q q.lf 0 []) 0 [] 0 [] (byteU b) := by rw [hqB, hsB]; rfl
  have HQB := Lib.hid hqB
  clear hsB hcB hqB hNB hWB hc2
  refine agow ?_; (try with_reducible exact True.intro)
  intro e3 he3
  have hc3 : decide (e3 = 0) = true := by rw [he3, HC.out]; rfl
  clear he3
  refine agow ?_; (try with_reducible exact True.intro)
  intro sY cY qY NY WY hsY hcY hqY hNY hWY
  obtain rfl : qY = qA := by rw [hqY, hsY, HQA.out]; rfl
  clear hsY hcY hqY hNY hWY hc3
  refine agow ?_; (try with_reducible exact True.intro)
  intro e4 he4
  have hc4 : decide (e4 = 0) = true := by rw [he4, HC.out]; rfl
  clear he4
  refine agow ?_; (try with_reducible exact True.intro)
  intro sZ cZ qZ NZ WZ hsZ hcZ hqZ hNZ hWZ
  obtain rfl : qZ = qB := by rw [hqZ, hsZ, HQB.out]; rfl
  clear hsZ hcZ hqZ hNZ hWZ hc4
  have hk := own_keys hA
  have hF := forks_eq qY qZ q
  clear hO hA HQA HQB
  refine agow ?_; (try with_reducible exact True.intro)
  intro c hc
  have hc : c = agreeB [some qY, some qZ, some q] := hc
  refine agow ?_; (try with_reducible exact True.intro)
  intro d hd
  have hd : d = c := hd.trans ((hF.symm).trans hc.symm)
  subst hd
  clear hc hF
  refine agow ?_; (try with_reducible exact True.intro)
theorem auditForks_walk (a : Int) (ha : (Lit.int .i64 a).wf = true) (b : Int) (hb : (Lit.int .i64 b).wf = true) {w : World} (hG : GOK gTab (fun _ => True) w) :
    Calls Tryz.prog 4 #[.int .i64 a, .int .i64 b] w fun e w' => e = .returned (.bool true) ∧ Below w.heap.size w w' :=
  law_of_fnU (auditForks_ok a b) hG (.cons (.v _) (.cons (.v _) .nil))
end Go.Proofs.YtegjkfaokpjojaaGreatDoor
