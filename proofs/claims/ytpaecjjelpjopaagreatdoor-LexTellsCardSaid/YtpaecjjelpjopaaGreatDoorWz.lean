/- The package lex does what the laws want of it. -/
import Derived.Test.YtpaecjjelpjopaaGreatDoorVl
import Derived.Test.YtpaecjjelpjopaaGreatDoorWv
import Derived.Test.YtpaecjjelpjopaaGreatDoorWu
namespace Go.Proofs.YtpaecjjelpjopaaGreatDoor
open Go.RowKit Go.Shelf BS

theorem lexC : LexC where
  next := fun s hs at' w _ => next5_dev s hs at' w
  all := fun s hs w _ => (all5_owns s hs w).mono fun _ _ ⟨v, h1, h2, h3⟩ => ⟨v, h1, words_of_owns h2, h3⟩
  text := fun t w hT => text5_dev t w hT.1 hT.2
  print := fun k a e t n m w hT => print5_dev k a e t n m w hT
end Go.Proofs.YtpaecjjelpjopaaGreatDoor
