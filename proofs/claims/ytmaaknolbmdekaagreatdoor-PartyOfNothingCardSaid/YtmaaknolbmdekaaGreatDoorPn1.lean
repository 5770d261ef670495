/-
  One step; the law of parties that are nothing.
-/
import Derived.Test.YtmaaknolbmdekaaGreatDoorPb8
import Derived.Test.YtmaaknolbmdekaaGreatDoorJ35
import Derived.Test.YtmaaknolbmdekaaGreatDoorA28
namespace Go.Proofs.YtmaaknolbmdekaaGreatDoor
set_option maxRecDepth 100000
open Go.RowKit Pm
set_option linter.unusedVariables false
set_option linter.unusedSimpArgs false
attribute [local irreducible] condK LoopA regA powI scal mulI isI fourB deriveW numB numsB bodyB nodeW nextW viewHV doR chkV planL sealB boxD keyZ helD commonI placeI apE doP comE comP nextP joinP upW lefW tagE welSegs welF createP enterP

theorem create_lf (h : List UInt8) : (createP h).lf = 0 ∧ (createP h).e = 0 := by unfold createP enterP; exact ⟨rfl, rfl⟩
theorem nextP_e (p : PS) (s : Vw) (n : Nat) (ops : List Int) (m : Nat) (vs : List Int) (d : List UInt8) : (nextP p s n ops m vs d).e = p.e + 1 := by unfold nextP reachP enterP behP renewP; rfl
theorem kn_lf {h : List UInt8} {p : PS} (hp : p = createP h) : p.lf = 0 := hp ▸ (create_lf h).1
theorem kn_e {h : List UInt8} {p : PS} (hp : p = createP h) : p.e = 0 := hp ▸ (create_lf h).2
theorem kn_com {h : List UInt8} {p : PS} (hp : p = createP h) : comE p 0 [] 0 [] = 0 := hp ▸ create_com h
theorem kn_do0 {p : PS} (hx : doR p.e ⟨p.zs, p.ad, p.k, F8, F8⟩ p.lf [] 0 = (0, ⟨p.zs, p.ad, p.k, F8, F8⟩)) : (doP p p.lf 0 []).ng = F8 := by
  unfold doP
  rw [hx]
theorem kn_do {h : List UInt8} {p : PS} (hp : p = createP h) : (doP p p.lf 0 []).ng = F8 := by
  have h1 := create_do h
  rw [← hp] at h1
  exact kn_do0 h1
theorem kn_nx {p : PS} (he : p.e = 0) (s : Vw) (m : Nat) (vs : List Int) (d : List UInt8) : (nextP p s 0 [] m vs d).e = 1 := by
  rw [nextP_e, he]
  rfl
set_option maxHeartbeats 4000000 in
theorem pknown_fn : FnO 18 [] (.d (.v (.bool true))) := by
  refine fnA (E := envPz7) Tryz.func18 Tryz.ntmps18 ?_
  refine agow ?_; (try with_reducible exact True.intro)
  intro h hh
  refine agow ?_; (try with_reducible exact True.intro)
  intro p hp
  have hlf := kn_lf hp
  have he := kn_e hp
  have hcom := kn_com hp
  have hdo := kn_do hp
  clear hp hh
  have hlb : leafB p.lf = true := by rw [hlf]; rfl
  have hl0 : (p.lf != 0) = false := by rw [hlf]; rfl
  have he0 : (p.e != 0) = false := by rw [he]; rfl
  have he1 : (p.e == 0) = true := by rw [he]; rfl
  clear hlf
  refine agow ?_; (try with_reducible exact True.intro)
  intro e hee
  have hc0 : decide (e = 0) = true := by rw [hee, hcom]; rfl
  clear hee hcom
  refine agow ?_; (try with_reducible exact True.intro)
  intro s c q N W hs hc hq hN hW
  have hqe : (q.e == 1) = true := by
    have h1 : q.e = 1 := hq ▸ kn_nx he s 0 [] _
    rw [h1]; rfl
  obtain rfl : N = 0 := by
    have h1 : s.ng = F8 := hs ▸ hdo
    rw [hN, h1]; rfl
  clear hs hc hq hN hW hdo he
  refine agow ?_; (try with_reducible exact True.intro)
  rw [he1]
noncomputable def envPz3 : EnvX := envPz7.add 18 knownS (knownS_ok pknown_fn) ⟨_, Tryz.func18, by kernel_rfl, by kernel_rfl⟩
theorem ok_moveT {E : EnvX} {o : Oper} {s : St} {fr : Nat} {x : Operand} {t : T} (ho : o.op = .move x ∨ o.op = .assign x) (hx : s.ev x = t) : OpOK E o s fr t none := hx ▸ ok_move ho
set_option maxHeartbeats 4000000 in
theorem partyOfNothing_ok (l : ByteArray) : FnO 9 [.v (.string l)] (.d (.v (.bool true))) := by
  refine fnGW (E := envPz3) Tryz.func9 Tryz.ntmps9 ?_
  refine GW.seq (GW.of ?_)
  refine agow ?_; (try with_reducible exact True.intro)
  refine GW.seq (GW.seq (GW.region (GL.cons (t := .d (.v (.string l))) rfl (ok_moveT (x := .tmp 0) (.inl rfl) rfl) (GL.cons rfl (ok_lenStr (b := l) rfl rfl rfl rfl Tryz.underlying9 rfl) (GL.of (Stop.out ?_))))))
  by_cases h : (l.size : Int) > 100
  · have g1 := decide_eq_true h
    clear h
    refine agow ?_; (try with_reducible exact True.intro)
    refine GW.of ?_
    refine agow ?_; (try with_reducible exact True.intro)
  · have hl : l.size ≤ 1000000 := by omega
    have g1 := decide_eq_false h
    clear h
    refine agow ?_; (try with_reducible exact True.intro)
    refine GW.of ?_
    refine agow ?_; (try with_reducible exact True.intro)
    refine GW.of ?_
    refine agow ?_; (try with_reducible exact True.intro)
theorem partyOfNothing_walk (l : ByteArray) (hl : l.size ≤ maxLen) {w : World} (hG : GOK gTab (fun _ => True) w) :
    Calls Tryz.prog 9 #[.string l] w fun e w' => e = .returned (.bool true) ∧ Below w.heap.size w w' :=
  law_of_fn (partyOfNothing_ok l) hG (.cons (.v _) .nil)
end Go.Proofs.YtmaaknolbmdekaaGreatDoor
